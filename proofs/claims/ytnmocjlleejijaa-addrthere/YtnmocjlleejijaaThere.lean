/-
  PROVED: whipcordkeep.AddrThere returns true for all arguments, and they read afterwards as they read before. No condition.
-/
import Derived.Test.YtnmocjlleejijaaRows
import Derived.Test.YtnmocjlleejijaaKeep1
import Derived.Test.YtnmocjlleejijaaShapesRaw
namespace Go.Proofs.Ytnmocjlleejijaa
open Go.ChangeShapes Go.WideShapes Go.ChangeAt Go.RowKit Go.Joins
set_option linter.unusedVariables false
set_option linter.unusedSimpArgs false

theorem bool_eq_of {a b : Bool} (h : a = true ↔ b = true) : a = b := Bool.eq_iff_iff.2 h

set_option maxHeartbeats 1000000 in
/-- There is no address so much further on. -/
theorem There.none_ (six : Bool) (hi lo p q H L m n : Int) (ph : ofH six hi = H) (pl : ofL six lo = L) (pm : p % 549755813888 = m) (pn : q % 549755813888 = n) (h0 : 0 ≤ hi) (h1 : hi ≤ 18446744073709551615) (l0 : 0 ≤ lo) (l1 : lo ≤ 18446744073709551615) (p0 : -9223372036854775808 ≤ p) (p1 : p ≤ 9223372036854775807) (q0 : -9223372036854775808 ≤ q) (q1 : q ≤ 9223372036854775807)
    (C1 : Hid (∀ W : World, Calls Try.prog 13 #[.agg #[.bool six, .int .u64 H, .int .u64 L], .int .i64 m] W fun e w' => e = .returned (.tuple #[.agg #[.bool false, .int .u64 0, .int .u64 0], .int .i64 2]) ∧ Below W.heap.size W w')) (w : World) :
    Calls Try.prog 6 #[.agg #[.bool six, .int .u64 hi, .int .u64 lo], .int .i64 p, .int .i64 q] w fun e w' => e = .returned (.bool true) ∧ Below w.heap.size w w' := by
  have PH := Lib.hid ph; have PL := Lib.hid pl; have PM := Lib.hid pm; have PN := Lib.hid pn
  clear ph pl pm pn
  go_enter Try.func6, Try.ntmps6
  go_wp2_with fail
  refine (addrOfRaw_calls six hi lo h0 l0 l1 _).mono ?_
  rw [PH.out, PL.out]
  rintro e w1 ⟨rfl, hb1⟩
  have b1 := thenBelow ((Below.refl _ w).alloc (Nat.le_refl _) _) hb1
  clear hb1
  go_wp2_with fail
  refine (picked_calls p 549755813888 (by omega) (by omega) p0 p1 _).mono ?_
  rw [PM.out]
  rintro e w2 ⟨rfl, rfl⟩
  go_wp2_with fail
  refine (picked_calls q 549755813888 (by omega) (by omega) q0 q1 _).mono ?_
  rw [PN.out]
  rintro e w2 ⟨rfl, rfl⟩
  go_wp2_with fail
  refine (C1.out _).mono ?_
  rintro e w2 ⟨rfl, hb2⟩
  have b2 := thenBelow (b1.alloc b1.size _) hb2
  clear hb2 b1
  go_wp2_with fail
  refine (next_yes false 0 1 1 0 2 (by omega) (by omega) (by omega) (by omega) (by decide) (by decide) (by decide) _).mono ?_
  rintro e w3 ⟨rfl, hb3⟩
  have b3 := thenBelow (b2.alloc b2.size _) hb3
  clear hb3 b2
  go_wp2
  go_ret
  exact ⟨rfl, b3.alloc b3.size _⟩

set_option maxHeartbeats 1000000 in
theorem There.same (six ys : Bool) (hi lo p q H L m n xh xl yh yl ye : Int) (ph : ofH six hi = H) (pl : ofL six lo = L) (pm : p % 549755813888 = m) (pn : q % 549755813888 = n) (h0 : 0 ≤ hi) (h1 : hi ≤ 18446744073709551615) (l0 : 0 ≤ lo) (l1 : lo ≤ 18446744073709551615) (p0 : -9223372036854775808 ≤ p) (p1 : p ≤ 9223372036854775807) (q0 : -9223372036854775808 ≤ q) (q1 : q ≤ 9223372036854775807)
    (m0 : 0 ≤ m) (m1 : m < 549755813888) (n0 : 0 ≤ n) (n1 : n < 549755813888)
    (C1 : Hid (∀ W : World, Calls Try.prog 13 #[.agg #[.bool six, .int .u64 H, .int .u64 L], .int .i64 m] W fun e w' => e = .returned (.tuple #[.agg #[.bool six, .int .u64 xh, .int .u64 xl], .int .i64 0]) ∧ Below W.heap.size W w'))
    (C2 : Hid (∀ W : World, Calls Try.prog 13 #[.agg #[.bool six, .int .u64 xh, .int .u64 xl], .int .i64 (-m)] W fun e w' => e = .returned (.tuple #[.agg #[.bool six, .int .u64 H, .int .u64 L], .int .i64 0]) ∧ Below W.heap.size W w'))
    (C3 : Hid (∀ W : World, Calls Try.prog 13 #[.agg #[.bool six, .int .u64 xh, .int .u64 xl], .int .i64 n] W fun e w' => e = .returned (.tuple #[.agg #[.bool ys, .int .u64 yh, .int .u64 yl], .int .i64 ye]) ∧ Below W.heap.size W w'))
    (C4 : Hid (∀ W : World, Calls Try.prog 13 #[.agg #[.bool six, .int .u64 H, .int .u64 L], .int .i64 (m + n)] W fun e w' => e = .returned (.tuple #[.agg #[.bool ys, .int .u64 yh, .int .u64 yl], .int .i64 ye]) ∧ Below W.heap.size W w')) (mz : (m == 0) = true) (w : World) :
    Calls Try.prog 6 #[.agg #[.bool six, .int .u64 hi, .int .u64 lo], .int .i64 p, .int .i64 q] w fun e w' => e = .returned (.bool true) ∧ Below w.heap.size w w' := by
  have PH := Lib.hid ph; have PL := Lib.hid pl; have PM := Lib.hid pm; have PN := Lib.hid pn
  clear ph pl pm pn
  go_enter Try.func6, Try.ntmps6
  go_wp2_with fail
  refine (addrOfRaw_calls six hi lo h0 l0 l1 _).mono ?_
  rw [PH.out, PL.out]
  rintro e w1 ⟨rfl, hb1⟩
  have b1 := thenBelow ((Below.refl _ w).alloc (Nat.le_refl _) _) hb1
  clear hb1
  go_wp2_with fail
  refine (picked_calls p 549755813888 (by omega) (by omega) p0 p1 _).mono ?_
  rw [PM.out]
  rintro e w2 ⟨rfl, rfl⟩
  go_wp2_with fail
  refine (picked_calls q 549755813888 (by omega) (by omega) q0 q1 _).mono ?_
  rw [PN.out]
  rintro e w2 ⟨rfl, rfl⟩
  go_wp2_with fail
  refine (C1.out _).mono ?_
  rintro e w2 ⟨rfl, hb2⟩
  have b2 := thenBelow (b1.alloc b1.size _) hb2
  have A2 := (AddrAt.new w1 six H L 24).keep hb2
  clear hb2 b1
  go_wp2_with fail
  refine (next_yes false 0 1 1 0 2 (by omega) (by omega) (by omega) (by omega) (by decide) (by decide) (by decide) _).mono ?_
  rintro e w3 ⟨rfl, hb3⟩
  have b3 := thenBelow (b2.alloc b2.size _) hb3
  have A3 := (A2.alloc _).keep hb3
  have X3 := (AddrAt.new w2 six xh xl 24).keep hb3
  clear hb3 b2 A2
  have ⟨x0, x1, x2, xz⟩ := X3
  go_wp2_with fail
  refine (C2.out _).mono ?_
  rintro e w4 ⟨rfl, hb4⟩
  have b4 := thenBelow (b3.alloc b3.size _) hb4
  have A4 := (A3.alloc _).keep hb4
  have X4 := (X3.alloc _).keep hb4
  clear hb4 b3 A3 X3 x0 x1 x2 xz
  have ⟨x0, x1, x2, xz⟩ := X4
  go_wp2_with fail
  refine (C3.out _).mono ?_
  rintro e w5 ⟨rfl, hb5⟩
  have b5 := thenBelow (b4.alloc b4.size _) hb5
  have A5 := (A4.alloc _).keep hb5
  have X5 := (X4.alloc _).keep hb5
  have B5 := (AddrAt.new w4 six H L 24).keep hb5
  clear hb5 b4 A4 X4 x0 x1 x2 xz
  have ⟨a0, a1, a2, az⟩ := A5
  go_wp2_with fail
  refine (C4.out _).mono ?_
  rintro e w6 ⟨rfl, hb6⟩
  have b6 := thenBelow (b5.alloc b5.size _) hb6
  have A6 := (A5.alloc _).keep hb6
  have X6 := (X5.alloc _).keep hb6
  have B6 := (B5.alloc _).keep hb6
  have Y6 := (AddrAt.new w5 ys yh yl 24).keep hb6
  clear hb6 b5 A5 X5 B5 a0 a1 a2 az
  have ⟨a0, a1, a2, az⟩ := A6
  have ⟨x0, x1, x2, xz⟩ := X6
  have ⟨k0, k1, k2, kz⟩ := B6
  have ⟨y0, y1, y2, yz⟩ := Y6
  clear A6 X6 B6 Y6
  go_wp2
  go_ret
  exact ⟨rfl, b6.alloc b6.size _⟩

set_option maxHeartbeats 1000000 in
theorem There.moved (six ys : Bool) (hi lo p q H L m n xh xl yh yl ye : Int) (ph : ofH six hi = H) (pl : ofL six lo = L) (pm : p % 549755813888 = m) (pn : q % 549755813888 = n) (h0 : 0 ≤ hi) (h1 : hi ≤ 18446744073709551615) (l0 : 0 ≤ lo) (l1 : lo ≤ 18446744073709551615) (p0 : -9223372036854775808 ≤ p) (p1 : p ≤ 9223372036854775807) (q0 : -9223372036854775808 ≤ q) (q1 : q ≤ 9223372036854775807)
    (m0 : 0 ≤ m) (m1 : m < 549755813888) (n0 : 0 ≤ n) (n1 : n < 549755813888)
    (C1 : Hid (∀ W : World, Calls Try.prog 13 #[.agg #[.bool six, .int .u64 H, .int .u64 L], .int .i64 m] W fun e w' => e = .returned (.tuple #[.agg #[.bool six, .int .u64 xh, .int .u64 xl], .int .i64 0]) ∧ Below W.heap.size W w'))
    (C2 : Hid (∀ W : World, Calls Try.prog 13 #[.agg #[.bool six, .int .u64 xh, .int .u64 xl], .int .i64 (-m)] W fun e w' => e = .returned (.tuple #[.agg #[.bool six, .int .u64 H, .int .u64 L], .int .i64 0]) ∧ Below W.heap.size W w'))
    (C3 : Hid (∀ W : World, Calls Try.prog 13 #[.agg #[.bool six, .int .u64 xh, .int .u64 xl], .int .i64 n] W fun e w' => e = .returned (.tuple #[.agg #[.bool ys, .int .u64 yh, .int .u64 yl], .int .i64 ye]) ∧ Below W.heap.size W w'))
    (C4 : Hid (∀ W : World, Calls Try.prog 13 #[.agg #[.bool six, .int .u64 H, .int .u64 L], .int .i64 (m + n)] W fun e w' => e = .returned (.tuple #[.agg #[.bool ys, .int .u64 yh, .int .u64 yl], .int .i64 ye]) ∧ Below W.heap.size W w')) (mz : (m == 0) = false) (C5 : Hid (H < xh ∨ H = xh ∧ L < xl)) (w : World) :
    Calls Try.prog 6 #[.agg #[.bool six, .int .u64 hi, .int .u64 lo], .int .i64 p, .int .i64 q] w fun e w' => e = .returned (.bool true) ∧ Below w.heap.size w w' := by
  have PH := Lib.hid ph; have PL := Lib.hid pl; have PM := Lib.hid pm; have PN := Lib.hid pn
  clear ph pl pm pn
  go_enter Try.func6, Try.ntmps6
  go_wp2_with fail
  refine (addrOfRaw_calls six hi lo h0 l0 l1 _).mono ?_
  rw [PH.out, PL.out]
  rintro e w1 ⟨rfl, hb1⟩
  have b1 := thenBelow ((Below.refl _ w).alloc (Nat.le_refl _) _) hb1
  clear hb1
  go_wp2_with fail
  refine (picked_calls p 549755813888 (by omega) (by omega) p0 p1 _).mono ?_
  rw [PM.out]
  rintro e w2 ⟨rfl, rfl⟩
  go_wp2_with fail
  refine (picked_calls q 549755813888 (by omega) (by omega) q0 q1 _).mono ?_
  rw [PN.out]
  rintro e w2 ⟨rfl, rfl⟩
  go_wp2_with fail
  refine (C1.out _).mono ?_
  rintro e w2 ⟨rfl, hb2⟩
  have b2 := thenBelow (b1.alloc b1.size _) hb2
  have A2 := (AddrAt.new w1 six H L 24).keep hb2
  clear hb2 b1
  go_wp2_with fail
  refine (next_yes false 0 1 1 0 2 (by omega) (by omega) (by omega) (by omega) (by decide) (by decide) (by decide) _).mono ?_
  rintro e w3 ⟨rfl, hb3⟩
  have b3 := thenBelow (b2.alloc b2.size _) hb3
  have A3 := (A2.alloc _).keep hb3
  have X3 := (AddrAt.new w2 six xh xl 24).keep hb3
  clear hb3 b2 A2
  have ⟨x0, x1, x2, xz⟩ := X3
  go_wp2_with fail
  refine (C2.out _).mono ?_
  rintro e w4 ⟨rfl, hb4⟩
  have b4 := thenBelow (b3.alloc b3.size _) hb4
  have A4 := (A3.alloc _).keep hb4
  have X4 := (X3.alloc _).keep hb4
  clear hb4 b3 A3 X3 x0 x1 x2 xz
  have ⟨x0, x1, x2, xz⟩ := X4
  go_wp2_with fail
  refine (C3.out _).mono ?_
  rintro e w5 ⟨rfl, hb5⟩
  have b5 := thenBelow (b4.alloc b4.size _) hb5
  have A5 := (A4.alloc _).keep hb5
  have X5 := (X4.alloc _).keep hb5
  have B5 := (AddrAt.new w4 six H L 24).keep hb5
  clear hb5 b4 A4 X4 x0 x1 x2 xz
  have ⟨a0, a1, a2, az⟩ := A5
  go_wp2_with fail
  refine (C4.out _).mono ?_
  rintro e w6 ⟨rfl, hb6⟩
  have b6 := thenBelow (b5.alloc b5.size _) hb6
  have A6 := (A5.alloc _).keep hb6
  have X6 := (X5.alloc _).keep hb6
  have B6 := (B5.alloc _).keep hb6
  have Y6 := (AddrAt.new w5 ys yh yl 24).keep hb6
  clear hb6 b5 A5 X5 B5 a0 a1 a2 az
  have ⟨a0, a1, a2, az⟩ := A6
  have ⟨x0, x1, x2, xz⟩ := X6
  have ⟨k0, k1, k2, kz⟩ := B6
  have ⟨y0, y1, y2, yz⟩ := Y6
  clear A6 X6 B6 Y6
  go_wp2_with (go_at_call 17; refine (ahead_yes six six H L xh xl C5.out _).mono ?_; rintro e w7 ⟨rfl, rfl⟩)
  go_ret
  have hs6 := b6.size
  exact ⟨rfl, by go_grown⟩

theorem There.walk (six : Bool) (hi lo p q : Int) (h0 : 0 ≤ hi) (h1 : hi ≤ 18446744073709551615) (l0 : 0 ≤ lo) (l1 : lo ≤ 18446744073709551615) (p0 : -9223372036854775808 ≤ p) (p1 : p ≤ 9223372036854775807) (q0 : -9223372036854775808 ≤ q) (q1 : q ≤ 9223372036854775807) (w : World) :
    Calls Try.prog 6 #[.agg #[.bool six, .int .u64 hi, .int .u64 lo], .int .i64 p, .int .i64 q] w fun e w' => e = .returned (.bool true) ∧ Below w.heap.size w w' := by
  obtain ⟨H, ph⟩ : ∃ H, ofH six hi = H := ⟨_, rfl⟩
  obtain ⟨L, pl⟩ : ∃ L, ofL six lo = L := ⟨_, rfl⟩
  obtain ⟨m, pm⟩ : ∃ m, p % 549755813888 = m := ⟨_, rfl⟩
  obtain ⟨n, pn⟩ : ∃ n, q % 549755813888 = n := ⟨_, rfl⟩
  have hof := of_ok six hi lo h0 h1 l0 l1
  rw [ph, pl] at hof
  obtain ⟨H0, H1, L0, L1, hm⟩ := hof
  have m0 : 0 ≤ m := by omega
  have m1 : m < 549755813888 := by omega
  have n0 : 0 ≤ n := by omega
  have n1 : n < 549755813888 := by omega
  have hlim := (may_iff six H L H0 L0 L1 H1).1 hm
  by_cases ok1 : nextOk six H L m = true
  · have ok1' := (nextOk_iff six H L m hm).1 ok1
    obtain ⟨xh, ex⟩ : ∃ x, numN H L m / 18446744073709551616 = x := ⟨_, rfl⟩
    obtain ⟨xl, el⟩ : ∃ x, numN H L m % 18446744073709551616 = x := ⟨_, rfl⟩
    have hl6 : limN six ≤ 340282366920938463463374607431768211456 := by cases six <;> simp [limN]
    have hN : numN H L m = xh * 18446744073709551616 + xl := by omega
    have x0 : 0 ≤ xh := by omega
    have x1 : xh ≤ 18446744073709551615 := by omega
    have y0 : 0 ≤ xl := by omega
    have y1 : xl ≤ 18446744073709551615 := by omega
    have hmx : mayB six xh xl = true := (may_iff six xh xl x0 y0 y1 x1).2 (by omega)
    have hback : numN xh xl (-m) = H * 18446744073709551616 + L := by unfold numN at *; omega
    have hfar : numN xh xl n = numN H L (m + n) := by unfold numN at *; omega
    have ok2 : nextOk six xh xl (-m) = true := (nextOk_iff six xh xl (-m) hmx).2 ⟨by omega, by omega⟩
    have C1 := Lib.hid (fun W => next_yes six H L m xh xl H0 H1 L0 L1 ok1 ex el W)
    have C2 := Lib.hid (fun W => next_yes six xh xl (-m) H L x0 x1 y0 y1 ok2 (by omega) (by omega) W)
    have ok34 : nextOk six xh xl n = nextOk six H L (m + n) := bool_eq_of (by rw [nextOk_iff six xh xl n hmx, nextOk_iff six H L (m + n) hm, hfar]; constructor <;> (intro h; exact ⟨by omega, h.2⟩))
    have C34 : ∃ (ys : Bool) (yh yl ye : Int), (∀ W : World, Calls Try.prog 13 #[.agg #[.bool six, .int .u64 xh, .int .u64 xl], .int .i64 n] W fun e w' => e = .returned (.tuple #[.agg #[.bool ys, .int .u64 yh, .int .u64 yl], .int .i64 ye]) ∧ Below W.heap.size W w') ∧ (∀ W : World, Calls Try.prog 13 #[.agg #[.bool six, .int .u64 H, .int .u64 L], .int .i64 (m + n)] W fun e w' => e = .returned (.tuple #[.agg #[.bool ys, .int .u64 yh, .int .u64 yl], .int .i64 ye]) ∧ Below W.heap.size W w') := by
      by_cases ok3 : nextOk six xh xl n = true
      · exact ⟨six, numN xh xl n / 18446744073709551616, numN xh xl n % 18446744073709551616, 0, fun W => next_yes six xh xl n _ _ x0 x1 y0 y1 ok3 rfl rfl W, fun W => next_yes six H L (m + n) _ _ H0 H1 L0 L1 (ok34 ▸ ok3) (by rw [hfar]) (by rw [hfar]) W⟩
      · have ok3' : nextOk six xh xl n = false := by simpa using ok3
        exact ⟨false, 0, 0, 2, fun W => next_none six xh xl n x0 x1 y0 y1 hmx ok3' W, fun W => next_none six H L (m + n) H0 H1 L0 L1 hm (ok34 ▸ ok3') W⟩
    obtain ⟨ys, yh, yl, ye, C3, C4⟩ := C34
    by_cases hz : m = 0
    · exact There.same six ys hi lo p q H L m n xh xl yh yl ye ph pl pm pn h0 h1 l0 l1 p0 p1 q0 q1 m0 m1 n0 n1 C1 C2 (Lib.hid C3) (Lib.hid C4) (by simpa using hz) w
    · exact There.moved six ys hi lo p q H L m n xh xl yh yl ye ph pl pm pn h0 h1 l0 l1 p0 p1 q0 q1 m0 m1 n0 n1 C1 C2 (Lib.hid C3) (Lib.hid C4) (by simpa using hz) (Lib.hid (by unfold numN at hN; omega)) w
  · exact There.none_ six hi lo p q H L m n ph pl pm pn h0 h1 l0 l1 p0 p1 q0 q1 (Lib.hid (fun W => next_none six H L m H0 H1 L0 L1 hm (by simpa using ok1) W)) w
theorem There.own : ownKnob Try.prog.godebug = none := by kernel_rfl
set_option maxRecDepth 100000 in
theorem There.lifted (os : Os) (started : os.Started) (H : Type) (enc : TypeId × Value → H) :
    ReturnsInHanded {} Try.checked os 6 .any (Rows.addrThereSpec.pre6 enc Try.prog Try.f6 Rows.addrThereRow.domain false) (Rows.addrThereSpec.post enc Try.prog Try.f6 false true false false) := by
  refine returnsInHanded_of_change (C := Try.checked) There.own started (by kernel_rfl) Try.func6
    (ChangeSpec.witness6 (enc := enc) (C := Try.checked) false ⟨#[], #[.agg #[.bool false, .int .u64 0, .int .u64 0], .int .i64 0, .int .i64 0], []⟩ 8 (by kernel_rfl) (by kernel_rfl) (by kernel_rfl) (by kernel_rfl)) ?_
  intro W base args ds gs before hval0 hW hcnd _
  have hval : ∀ (j : Nat) t v, Try.f6.params[j]? = some t → args[j]? = some v → Value.okWide Try.prog W .any base t v := hval0
  have hW' := hW
  obtain ⟨p, q, hA0, hV, rfl, hfz, hnd⟩ := hW
  have hA : DataW.TrodAll enc Try.prog W 0 (fun _ => true) true Try.f6.params.toList args.toList ds p := hA0
  rw [Try.params6] at hA hval
  obtain ⟨v0, vs0, d0, ds0, p0, q0, hargs, rfl, rfl, rd0, r0⟩ := trodAll_cons hA
  obtain ⟨v1, vs1, d1, ds1, p1, q1, rfl, rfl, rfl, rd1, r1⟩ := trodAll_cons r0
  obtain ⟨v2, vs2, d2, ds2, p2, q2, rfl, rfl, rfl, rd2, r2⟩ := trodAll_cons r1
  obtain ⟨rfl, rfl, rfl⟩ := trodAll_nil r2
  obtain rfl : args = #[v0, v1, v2] := by cases args; simp_all
  obtain ⟨rfl, rfl⟩ := trodVars_none hV
  obtain ⟨s0, h0, l0, rfl, rfl, rfl, wa0, wb0⟩ := openRaw (hval 0 32 v0 rfl rfl) rd0
  obtain ⟨a1, rfl, rfl, rfl, wa1⟩ := open_int Try.underlying3 (hval 1 3 v1 rfl rfl) rd1
  obtain ⟨a2, rfl, rfl, rfl, wa2⟩ := open_int Try.underlying3 (hval 2 3 v2 rfl rfl) rd2
  clear hA0 hval0
  simp only [List.append_nil] at hW'
  refine (There.walk s0 h0 l0 a1 a2 (u64_of_wf wa0).1 (u64_of_wf wa0).2 (u64_of_wf wb0).1 (u64_of_wf wb0).2 (i64_of_wf wa1).1 (i64_of_wf wa1).2 (i64_of_wf wa2).1 (i64_of_wf wa2).2 W).mono fun e W' ⟨he, hb⟩ => ?_
  subst he
  exact ⟨_, rfl, postBelow (pa := []) (pv := []) hW' hb (fun _ _ _ => trodAll_cons_mk (shut_bool Try.underlying4 _) trodAll_mk0) (fun sp _ => trodAll_cons_mk (shutRaw wa0 wb0) (trodAll_cons_mk (shut_int Try.underlying3 wa1) (trodAll_cons_mk (shut_int Try.underlying3 wa2) trodAll_mk0))) (fun _ _ => rfl) rfl⟩

theorem There.holds : Rows.AddrThereSaid :=
  OpenClaim.holds_of_wide 6 Try.f6 rfl rfl rfl rfl rfl rfl rfl ⟨rfl, rfl, rfl, rfl, rfl⟩ rfl rfl rfl rfl rfl (by kernel_rfl) Try.func6 (by kernel_rfl)
    (of_decide_eq_true (by kernel_rfl)) (by unfold Func.isWrapper; first | (rw [if_pos (by decide +kernel)]; kernel_rfl) | (rw [if_neg (by decide +kernel)]; exact ⟨rfl, rfl⟩))
    (fun os started H enc _ => There.lifted os started H enc)
#print axioms There.holds
end Go.Proofs.Ytnmocjlleejijaa

/-
  PROVED: whipcordkeep.AddrBack returns true for all arguments, and they read afterwards as they read before.
-/
import Derived.Test.YtnmocjlleejijaaDoorLaid7
import Derived.Test.YtnmocjlleejijaaDoorBackB
import Derived.Test.YtnmocjlleejijaaDoorAddrOf
import Derived.Test.YtnmocjlleejijaaDoorAddrAt
import Derived.Test.YtnmocjlleejijaaDoorShapesRaw
namespace Go.Proofs.YtnmocjlleejijaaDoor
open Go.ChangeShapes Go.WideShapes Go.ChangeAt Go.RowKit Go.Joins
set_option linter.unusedVariables false
set_option linter.unusedSimpArgs false

theorem textE_may {six : Bool} {H L : Nat} (h : mayB six (H : Int) (L : Int) = true) : textE six H L = 0 := by
  cases six
  · simp [mayB] at h
    simp [textE]; omega
  · rfl
theorem textL_len {six : Bool} {H L : Nat} (h : textE six H L = 0) : (textL six H L).length ≤ 39 ∧ textL six H L ≠ [] := by
  have : (textL six H L).length ≤ 39 ∧ 2 ≤ (textL six H L).length := by
    cases six
    · have hm : H = 0 ∧ L < 4294967296 := by
        unfold textE at h
        rw [if_neg (by decide)] at h
        split at h
        · assumption
        · cases h
      have e1 : textL false H L = Lib.join (fourT L) [46] := by simp [textL, hm]
      have := four_facts L
      rw [e1]; omega
    · have h2 := six_facts (grpP H L) rfl
      have h3 : (sixT (grpP H L)).count 58 ≤ (sixT (grpP H L)).length := List.count_le_length
      show (sixT (grpP H L)).length ≤ 39 ∧ 2 ≤ (sixT (grpP H L)).length
      omega
  exact ⟨this.1, fun e => by rw [e] at this; simp at this⟩

set_option maxHeartbeats 4000000 in
set_option maxRecDepth 100000 in
theorem Back.same (six : Bool) (hi lo : Int) (hi2 lo2 : Int) (H L H2 L2 : Nat) (T T2 : List UInt8)
    (C0 : Hid (∀ W : World, Calls Tryd.prog 11 #[.agg #[.bool six, .int .u64 hi, .int .u64 lo]] W fun e w' => e = .returned (.agg #[.bool six, .int .u64 (H : Int), .int .u64 (L : Int)]) ∧ Below W.heap.size W w'))
    (D0 : Hid (∀ W : World, Calls Tryd.prog 11 #[.agg #[.bool six, .int .u64 hi2, .int .u64 lo2]] W fun e w' => e = .returned (.agg #[.bool six, .int .u64 (H : Int), .int .u64 (L : Int)]) ∧ Below W.heap.size W w'))
    (C1 : Hid (∀ W : World, Tabs W → Calls Tryd.prog 7 #[.agg #[.bool six, .int .u64 (H : Int), .int .u64 (L : Int)]] W fun e w' => e = .returned (.tuple #[.string ⟨T.toArray⟩, .int .i64 0]) ∧ Below W.heap.size W w'))
    (D1 : Hid (∀ W : World, Tabs W → Calls Tryd.prog 7 #[.agg #[.bool six, .int .u64 (H : Int), .int .u64 (L : Int)]] W fun e w' => e = .returned (.tuple #[.string ⟨T.toArray⟩, .int .i64 0]) ∧ Below W.heap.size W w'))
    (CP : Hid (∀ W : World, RTabs W → Calls Tryd.prog 9 #[.string ⟨T.toArray⟩] W fun e w' => e = .returned (.tuple #[.agg #[.bool six, .int .u64 (H : Int), .int .u64 (L : Int)], .int .i64 0]) ∧ Below W.heap.size W w'))
    (CM : Hid (∀ W : World, Calls Tryd.prog 12 #[.agg #[.bool six, .int .u64 (H : Int), .int .u64 (L : Int)]] W fun e w' => e = .returned (.bool true) ∧ Below W.heap.size W w'))
    (hT0 : (T == []) = false)  (w : World) (ht : RTabs w) :
    Calls Tryd.prog 5 #[.agg #[.bool six, .int .u64 hi, .int .u64 lo], .agg #[.bool six, .int .u64 hi2, .int .u64 lo2]] w fun e w' => e = .returned (.bool true) ∧ Below w.heap.size w w' := by
  have HT := Lib.hid ht
  have Q0 := Lib.hid (AddrAt.new (w.alloc (.cells #[.bool six, .int .u64 hi, .int .u64 lo] 32)) six hi2 lo2 32)
  have hemp : T.isEmpty = false := by cases T with | nil => exact absurd hT0 (by decide) | cons _ _ => rfl
  have hemp2 : ¬ T = [] := fun e => by rw [e] at hemp; cases hemp
  clear ht
  go_enter Tryd.func5, Tryd.ntmps5
  go_wp2_with fail
  refine (C0.out _).mono ?_
  rintro e w1 ⟨rfl, hb1⟩
  have Q1 := Q0.out.keep hb1
  simp only [World.size_alloc] at Q1
  have ⟨q0, q1, q2, qs⟩ := Q1
  have R1 := (HT.out.alloc _).alloc _ |>.keep hb1
  have b1 := thenBelow (((Below.refl _ w).alloc (Nat.le_refl _) _).alloc (by simp) _) hb1
  have A1 := Lib.hid (AddrAt.new w1 six H L 24)
  clear hb1 HT Q0 C0
  go_wp2_with fail
  refine (D0.out _).mono ?_
  rintro e w2 ⟨rfl, hb2⟩
  have A2 := A1.out.keep hb2
  have R2 := (R1.alloc _).keep hb2
  have b2 := thenBelow (b1.alloc b1.size _) hb2
  have B2 := AddrAt.new w2 six H L 24
  have A3 := A2.alloc (.cells #[.bool six, .int .u64 (H : Int), .int .u64 (L : Int)] 24)
  have R3 := R2.alloc (.cells #[.bool six, .int .u64 (H : Int), .int .u64 (L : Int)] 24)
  have b3 := b2.alloc b2.size (.cells #[.bool six, .int .u64 (H : Int), .int .u64 (L : Int)] 24)
  have ⟨a0, a1, a2, az⟩ := A2
  clear hb2 R1 b1 A1 Q1 q0 q1 q2 qs D0 A2 R2 b2
  go_wp2_with fail
  clear a0 a1 a2 az
  refine (C1.out _ R3.1).mono ?_
  rintro e w4 ⟨rfl, hb4⟩
  have A4 := A3.keep hb4
  have B4 := B2.keep hb4
  have R4 := R3.keep hb4
  have b4 := thenBelow b3 hb4
  clear hb4 A3 B2 R3 b3 C1
  have ⟨c0, c1, c2, cs⟩ := B4
  go_wp2_with fail
  refine (D1.out _ R4.1).mono ?_
  rintro e w5 ⟨rfl, hb5⟩
  have A5 := A4.keep hb5
  have B5 := B4.keep hb5
  have R5 := R4.keep hb5
  have b5 := thenBelow b4 hb5
  clear hb5 A4 B4 R4 b4 D1 c0 c1 c2 cs
  go_wp2_with fail
  refine (CP.out _ R5).mono ?_
  rintro e w6 ⟨rfl, hb6⟩
  have A6 := A5.keep hb6
  have B6 := B5.keep hb6
  have b6 := thenBelow b5 hb6
  have ⟨a0, a1, a2, az⟩ := A6
  have ⟨d0, d1, d2, ds⟩ := B6
  clear hb6 A5 B5 R5 b5 CP A6 B6
  go_wp2_with (go_at_call 12; refine (CM.out _).mono ?_; rintro e w7 ⟨rfl, hb7⟩)
  go_ret
  exact ⟨by first | rfl | simp_all, thenBelow (b6.alloc b6.size _) hb7⟩

set_option maxHeartbeats 4000000 in
set_option maxRecDepth 100000 in
theorem Back.fam (six : Bool) (hi lo : Int) (six2 : Bool) (hi2 lo2 : Int) (H L H2 L2 : Nat) (T T2 : List UInt8)
    (C0 : Hid (∀ W : World, Calls Tryd.prog 11 #[.agg #[.bool six, .int .u64 hi, .int .u64 lo]] W fun e w' => e = .returned (.agg #[.bool six, .int .u64 (H : Int), .int .u64 (L : Int)]) ∧ Below W.heap.size W w'))
    (D0 : Hid (∀ W : World, Calls Tryd.prog 11 #[.agg #[.bool six2, .int .u64 hi2, .int .u64 lo2]] W fun e w' => e = .returned (.agg #[.bool six2, .int .u64 (H2 : Int), .int .u64 (L2 : Int)]) ∧ Below W.heap.size W w'))
    (C1 : Hid (∀ W : World, Tabs W → Calls Tryd.prog 7 #[.agg #[.bool six, .int .u64 (H : Int), .int .u64 (L : Int)]] W fun e w' => e = .returned (.tuple #[.string ⟨T.toArray⟩, .int .i64 0]) ∧ Below W.heap.size W w'))
    (D1 : Hid (∀ W : World, Tabs W → Calls Tryd.prog 7 #[.agg #[.bool six2, .int .u64 (H2 : Int), .int .u64 (L2 : Int)]] W fun e w' => e = .returned (.tuple #[.string ⟨T2.toArray⟩, .int .i64 0]) ∧ Below W.heap.size W w'))
    (CP : Hid (∀ W : World, RTabs W → Calls Tryd.prog 9 #[.string ⟨T.toArray⟩] W fun e w' => e = .returned (.tuple #[.agg #[.bool six, .int .u64 (H : Int), .int .u64 (L : Int)], .int .i64 0]) ∧ Below W.heap.size W w'))
    (CM : Hid (∀ W : World, Calls Tryd.prog 12 #[.agg #[.bool six, .int .u64 (H : Int), .int .u64 (L : Int)]] W fun e w' => e = .returned (.bool true) ∧ Below W.heap.size W w'))
    (hT0 : (T == []) = false) (h6 : (six == six2) = false) (h6' : ¬ six = six2) (hTT : (T == T2) = false) (w : World) (ht : RTabs w) :
    Calls Tryd.prog 5 #[.agg #[.bool six, .int .u64 hi, .int .u64 lo], .agg #[.bool six2, .int .u64 hi2, .int .u64 lo2]] w fun e w' => e = .returned (.bool true) ∧ Below w.heap.size w w' := by
  have HT := Lib.hid ht
  have Q0 := Lib.hid (AddrAt.new (w.alloc (.cells #[.bool six, .int .u64 hi, .int .u64 lo] 32)) six2 hi2 lo2 32)
  have hemp : T.isEmpty = false := by cases T with | nil => exact absurd hT0 (by decide) | cons _ _ => rfl
  have hemp2 : ¬ T = [] := fun e => by rw [e] at hemp; cases hemp
  clear ht
  go_enter Tryd.func5, Tryd.ntmps5
  go_wp2_with fail
  refine (C0.out _).mono ?_
  rintro e w1 ⟨rfl, hb1⟩
  have Q1 := Q0.out.keep hb1
  simp only [World.size_alloc] at Q1
  have ⟨q0, q1, q2, qs⟩ := Q1
  have R1 := (HT.out.alloc _).alloc _ |>.keep hb1
  have b1 := thenBelow (((Below.refl _ w).alloc (Nat.le_refl _) _).alloc (by simp) _) hb1
  have A1 := Lib.hid (AddrAt.new w1 six H L 24)
  clear hb1 HT Q0 C0
  go_wp2_with fail
  refine (D0.out _).mono ?_
  rintro e w2 ⟨rfl, hb2⟩
  have A2 := A1.out.keep hb2
  have R2 := (R1.alloc _).keep hb2
  have b2 := thenBelow (b1.alloc b1.size _) hb2
  have B2 := AddrAt.new w2 six2 H2 L2 24
  have A3 := A2.alloc (.cells #[.bool six2, .int .u64 (H2 : Int), .int .u64 (L2 : Int)] 24)
  have R3 := R2.alloc (.cells #[.bool six2, .int .u64 (H2 : Int), .int .u64 (L2 : Int)] 24)
  have b3 := b2.alloc b2.size (.cells #[.bool six2, .int .u64 (H2 : Int), .int .u64 (L2 : Int)] 24)
  have ⟨a0, a1, a2, az⟩ := A2
  clear hb2 R1 b1 A1 Q1 q0 q1 q2 qs D0 A2 R2 b2
  go_wp2_with fail
  clear a0 a1 a2 az
  refine (C1.out _ R3.1).mono ?_
  rintro e w4 ⟨rfl, hb4⟩
  have A4 := A3.keep hb4
  have B4 := B2.keep hb4
  have R4 := R3.keep hb4
  have b4 := thenBelow b3 hb4
  clear hb4 A3 B2 R3 b3 C1
  have ⟨c0, c1, c2, cs⟩ := B4
  go_wp2_with fail
  refine (D1.out _ R4.1).mono ?_
  rintro e w5 ⟨rfl, hb5⟩
  have A5 := A4.keep hb5
  have B5 := B4.keep hb5
  have R5 := R4.keep hb5
  have b5 := thenBelow b4 hb5
  clear hb5 A4 B4 R4 b4 D1 c0 c1 c2 cs
  go_wp2_with fail
  refine (CP.out _ R5).mono ?_
  rintro e w6 ⟨rfl, hb6⟩
  have A6 := A5.keep hb6
  have B6 := B5.keep hb6
  have b6 := thenBelow b5 hb6
  have ⟨a0, a1, a2, az⟩ := A6
  have ⟨d0, d1, d2, ds⟩ := B6
  clear hb6 A5 B5 R5 b5 CP A6 B6
  go_wp2_with (go_at_call 12; refine (CM.out _).mono ?_; rintro e w7 ⟨rfl, hb7⟩)
  go_ret
  exact ⟨by first | rfl | simp_all, thenBelow (b6.alloc b6.size _) hb7⟩

set_option maxHeartbeats 4000000 in
set_option maxRecDepth 100000 in
theorem Back.high (six : Bool) (hi lo : Int) (hi2 lo2 : Int) (H L H2 L2 : Nat) (T T2 : List UInt8)
    (C0 : Hid (∀ W : World, Calls Tryd.prog 11 #[.agg #[.bool six, .int .u64 hi, .int .u64 lo]] W fun e w' => e = .returned (.agg #[.bool six, .int .u64 (H : Int), .int .u64 (L : Int)]) ∧ Below W.heap.size W w'))
    (D0 : Hid (∀ W : World, Calls Tryd.prog 11 #[.agg #[.bool six, .int .u64 hi2, .int .u64 lo2]] W fun e w' => e = .returned (.agg #[.bool six, .int .u64 (H2 : Int), .int .u64 (L2 : Int)]) ∧ Below W.heap.size W w'))
    (C1 : Hid (∀ W : World, Tabs W → Calls Tryd.prog 7 #[.agg #[.bool six, .int .u64 (H : Int), .int .u64 (L : Int)]] W fun e w' => e = .returned (.tuple #[.string ⟨T.toArray⟩, .int .i64 0]) ∧ Below W.heap.size W w'))
    (D1 : Hid (∀ W : World, Tabs W → Calls Tryd.prog 7 #[.agg #[.bool six, .int .u64 (H2 : Int), .int .u64 (L2 : Int)]] W fun e w' => e = .returned (.tuple #[.string ⟨T2.toArray⟩, .int .i64 0]) ∧ Below W.heap.size W w'))
    (CP : Hid (∀ W : World, RTabs W → Calls Tryd.prog 9 #[.string ⟨T.toArray⟩] W fun e w' => e = .returned (.tuple #[.agg #[.bool six, .int .u64 (H : Int), .int .u64 (L : Int)], .int .i64 0]) ∧ Below W.heap.size W w'))
    (CM : Hid (∀ W : World, Calls Tryd.prog 12 #[.agg #[.bool six, .int .u64 (H : Int), .int .u64 (L : Int)]] W fun e w' => e = .returned (.bool true) ∧ Below W.heap.size W w'))
    (hT0 : (T == []) = false) (hH : ((H : Int) == (H2 : Int)) = false) (hH' : ¬ (H : Int) = (H2 : Int)) (hTT : (T == T2) = false) (w : World) (ht : RTabs w) :
    Calls Tryd.prog 5 #[.agg #[.bool six, .int .u64 hi, .int .u64 lo], .agg #[.bool six, .int .u64 hi2, .int .u64 lo2]] w fun e w' => e = .returned (.bool true) ∧ Below w.heap.size w w' := by
  have HT := Lib.hid ht
  have Q0 := Lib.hid (AddrAt.new (w.alloc (.cells #[.bool six, .int .u64 hi, .int .u64 lo] 32)) six hi2 lo2 32)
  have hemp : T.isEmpty = false := by cases T with | nil => exact absurd hT0 (by decide) | cons _ _ => rfl
  have hemp2 : ¬ T = [] := fun e => by rw [e] at hemp; cases hemp
  clear ht
  go_enter Tryd.func5, Tryd.ntmps5
  go_wp2_with fail
  refine (C0.out _).mono ?_
  rintro e w1 ⟨rfl, hb1⟩
  have Q1 := Q0.out.keep hb1
  simp only [World.size_alloc] at Q1
  have ⟨q0, q1, q2, qs⟩ := Q1
  have R1 := (HT.out.alloc _).alloc _ |>.keep hb1
  have b1 := thenBelow (((Below.refl _ w).alloc (Nat.le_refl _) _).alloc (by simp) _) hb1
  have A1 := Lib.hid (AddrAt.new w1 six H L 24)
  clear hb1 HT Q0 C0
  go_wp2_with fail
  refine (D0.out _).mono ?_
  rintro e w2 ⟨rfl, hb2⟩
  have A2 := A1.out.keep hb2
  have R2 := (R1.alloc _).keep hb2
  have b2 := thenBelow (b1.alloc b1.size _) hb2
  have B2 := AddrAt.new w2 six H2 L2 24
  have A3 := A2.alloc (.cells #[.bool six, .int .u64 (H2 : Int), .int .u64 (L2 : Int)] 24)
  have R3 := R2.alloc (.cells #[.bool six, .int .u64 (H2 : Int), .int .u64 (L2 : Int)] 24)
  have b3 := b2.alloc b2.size (.cells #[.bool six, .int .u64 (H2 : Int), .int .u64 (L2 : Int)] 24)
  have ⟨a0, a1, a2, az⟩ := A2
  clear hb2 R1 b1 A1 Q1 q0 q1 q2 qs D0 A2 R2 b2
  go_wp2_with fail
  clear a0 a1 a2 az
  refine (C1.out _ R3.1).mono ?_
  rintro e w4 ⟨rfl, hb4⟩
  have A4 := A3.keep hb4
  have B4 := B2.keep hb4
  have R4 := R3.keep hb4
  have b4 := thenBelow b3 hb4
  clear hb4 A3 B2 R3 b3 C1
  have ⟨c0, c1, c2, cs⟩ := B4
  go_wp2_with fail
  refine (D1.out _ R4.1).mono ?_
  rintro e w5 ⟨rfl, hb5⟩
  have A5 := A4.keep hb5
  have B5 := B4.keep hb5
  have R5 := R4.keep hb5
  have b5 := thenBelow b4 hb5
  clear hb5 A4 B4 R4 b4 D1 c0 c1 c2 cs
  go_wp2_with fail
  refine (CP.out _ R5).mono ?_
  rintro e w6 ⟨rfl, hb6⟩
  have A6 := A5.keep hb6
  have B6 := B5.keep hb6
  have b6 := thenBelow b5 hb6
  have ⟨a0, a1, a2, az⟩ := A6
  have ⟨d0, d1, d2, ds⟩ := B6
  clear hb6 A5 B5 R5 b5 CP A6 B6
  go_wp2_with (go_at_call 12; refine (CM.out _).mono ?_; rintro e w7 ⟨rfl, hb7⟩)
  go_ret
  exact ⟨by first | rfl | simp_all, thenBelow (b6.alloc b6.size _) hb7⟩

set_option maxHeartbeats 4000000 in
set_option maxRecDepth 100000 in
theorem Back.low (six : Bool) (hi lo : Int) (hi2 lo2 : Int) (H L H2 L2 : Nat) (T T2 : List UInt8)
    (C0 : Hid (∀ W : World, Calls Tryd.prog 11 #[.agg #[.bool six, .int .u64 hi, .int .u64 lo]] W fun e w' => e = .returned (.agg #[.bool six, .int .u64 (H : Int), .int .u64 (L : Int)]) ∧ Below W.heap.size W w'))
    (D0 : Hid (∀ W : World, Calls Tryd.prog 11 #[.agg #[.bool six, .int .u64 hi2, .int .u64 lo2]] W fun e w' => e = .returned (.agg #[.bool six, .int .u64 (H : Int), .int .u64 (L2 : Int)]) ∧ Below W.heap.size W w'))
    (C1 : Hid (∀ W : World, Tabs W → Calls Tryd.prog 7 #[.agg #[.bool six, .int .u64 (H : Int), .int .u64 (L : Int)]] W fun e w' => e = .returned (.tuple #[.string ⟨T.toArray⟩, .int .i64 0]) ∧ Below W.heap.size W w'))
    (D1 : Hid (∀ W : World, Tabs W → Calls Tryd.prog 7 #[.agg #[.bool six, .int .u64 (H : Int), .int .u64 (L2 : Int)]] W fun e w' => e = .returned (.tuple #[.string ⟨T2.toArray⟩, .int .i64 0]) ∧ Below W.heap.size W w'))
    (CP : Hid (∀ W : World, RTabs W → Calls Tryd.prog 9 #[.string ⟨T.toArray⟩] W fun e w' => e = .returned (.tuple #[.agg #[.bool six, .int .u64 (H : Int), .int .u64 (L : Int)], .int .i64 0]) ∧ Below W.heap.size W w'))
    (CM : Hid (∀ W : World, Calls Tryd.prog 12 #[.agg #[.bool six, .int .u64 (H : Int), .int .u64 (L : Int)]] W fun e w' => e = .returned (.bool true) ∧ Below W.heap.size W w'))
    (hT0 : (T == []) = false) (hL : ((L : Int) == (L2 : Int)) = false) (hL' : ¬ (L : Int) = (L2 : Int)) (hTT : (T == T2) = false) (w : World) (ht : RTabs w) :
    Calls Tryd.prog 5 #[.agg #[.bool six, .int .u64 hi, .int .u64 lo], .agg #[.bool six, .int .u64 hi2, .int .u64 lo2]] w fun e w' => e = .returned (.bool true) ∧ Below w.heap.size w w' := by
  have HT := Lib.hid ht
  have Q0 := Lib.hid (AddrAt.new (w.alloc (.cells #[.bool six, .int .u64 hi, .int .u64 lo] 32)) six hi2 lo2 32)
  have hemp : T.isEmpty = false := by cases T with | nil => exact absurd hT0 (by decide) | cons _ _ => rfl
  have hemp2 : ¬ T = [] := fun e => by rw [e] at hemp; cases hemp
  clear ht
  go_enter Tryd.func5, Tryd.ntmps5
  go_wp2_with fail
  refine (C0.out _).mono ?_
  rintro e w1 ⟨rfl, hb1⟩
  have Q1 := Q0.out.keep hb1
  simp only [World.size_alloc] at Q1
  have ⟨q0, q1, q2, qs⟩ := Q1
  have R1 := (HT.out.alloc _).alloc _ |>.keep hb1
  have b1 := thenBelow (((Below.refl _ w).alloc (Nat.le_refl _) _).alloc (by simp) _) hb1
  have A1 := Lib.hid (AddrAt.new w1 six H L 24)
  clear hb1 HT Q0 C0
  go_wp2_with fail
  refine (D0.out _).mono ?_
  rintro e w2 ⟨rfl, hb2⟩
  have A2 := A1.out.keep hb2
  have R2 := (R1.alloc _).keep hb2
  have b2 := thenBelow (b1.alloc b1.size _) hb2
  have B2 := AddrAt.new w2 six H L2 24
  have A3 := A2.alloc (.cells #[.bool six, .int .u64 (H : Int), .int .u64 (L2 : Int)] 24)
  have R3 := R2.alloc (.cells #[.bool six, .int .u64 (H : Int), .int .u64 (L2 : Int)] 24)
  have b3 := b2.alloc b2.size (.cells #[.bool six, .int .u64 (H : Int), .int .u64 (L2 : Int)] 24)
  have ⟨a0, a1, a2, az⟩ := A2
  clear hb2 R1 b1 A1 Q1 q0 q1 q2 qs D0 A2 R2 b2
  go_wp2_with fail
  clear a0 a1 a2 az
  refine (C1.out _ R3.1).mono ?_
  rintro e w4 ⟨rfl, hb4⟩
  have A4 := A3.keep hb4
  have B4 := B2.keep hb4
  have R4 := R3.keep hb4
  have b4 := thenBelow b3 hb4
  clear hb4 A3 B2 R3 b3 C1
  have ⟨c0, c1, c2, cs⟩ := B4
  go_wp2_with fail
  refine (D1.out _ R4.1).mono ?_
  rintro e w5 ⟨rfl, hb5⟩
  have A5 := A4.keep hb5
  have B5 := B4.keep hb5
  have R5 := R4.keep hb5
  have b5 := thenBelow b4 hb5
  clear hb5 A4 B4 R4 b4 D1 c0 c1 c2 cs
  go_wp2_with fail
  refine (CP.out _ R5).mono ?_
  rintro e w6 ⟨rfl, hb6⟩
  have A6 := A5.keep hb6
  have B6 := B5.keep hb6
  have b6 := thenBelow b5 hb6
  have ⟨a0, a1, a2, az⟩ := A6
  have ⟨d0, d1, d2, ds⟩ := B6
  clear hb6 A5 B5 R5 b5 CP A6 B6
  go_wp2_with (go_at_call 12; refine (CM.out _).mono ?_; rintro e w7 ⟨rfl, hb7⟩)
  go_ret
  exact ⟨by first | rfl | simp_all, thenBelow (b6.alloc b6.size _) hb7⟩

theorem may_true {six : Bool} {H L : Nat} (h : mayB six (H : Int) (L : Int) = true) (W : World) : Calls Tryd.prog 12 #[.agg #[.bool six, .int .u64 (H : Int), .int .u64 (L : Int)]] W fun e w' => e = .returned (.bool true) ∧ Below W.heap.size W w' := by
  refine (may_calls six H L (by omega) (by omega) W).mono ?_
  rintro e w' ⟨rfl, rfl⟩
  exact ⟨by rw [h], (Below.refl _ _).alloc (Nat.le_refl _) _⟩

theorem Back.walk (six : Bool) (hi lo : Int) (six2 : Bool) (hi2 lo2 : Int) (h0 : 0 ≤ hi) (h1 : hi ≤ 18446744073709551615) (l0 : 0 ≤ lo) (l1 : lo ≤ 18446744073709551615) (k0 : 0 ≤ hi2) (k1 : hi2 ≤ 18446744073709551615) (m0 : 0 ≤ lo2) (m1 : lo2 ≤ 18446744073709551615) (w : World) (ht : RTabs w) :
    Calls Tryd.prog 5 #[.agg #[.bool six, .int .u64 hi, .int .u64 lo], .agg #[.bool six2, .int .u64 hi2, .int .u64 lo2]] w fun e w' => e = .returned (.bool true) ∧ Below w.heap.size w w' := by
  obtain ⟨o1, o2, o3, o4, o5⟩ := of_ok six hi lo h0 h1 l0 l1
  obtain ⟨p1, p2, p3, p4, p5⟩ := of_ok six2 hi2 lo2 k0 k1 m0 m1
  have c0 := addrOfRaw_calls six hi lo h0 l0 l1
  have d0 := addrOfRaw_calls six2 hi2 lo2 k0 m0 m1
  obtain ⟨H, hH⟩ := Int.eq_ofNat_of_zero_le o1
  obtain ⟨L, hL⟩ := Int.eq_ofNat_of_zero_le o3
  obtain ⟨H2, hH2⟩ := Int.eq_ofNat_of_zero_le p1
  obtain ⟨L2, hL2⟩ := Int.eq_ofNat_of_zero_le p3
  rw [hH] at o2 o5 c0
  rw [hL] at o4 o5 c0
  rw [hH2] at p2 p5 d0
  rw [hL2] at p4 p5 d0
  have eE := textE_may o5
  have eE2 := textE_may p5
  have c1 := text_calls six H L (by omega) (by omega)
  have d1 := text_calls six2 H2 L2 (by omega) (by omega)
  rw [eE] at c1
  rw [eE2] at d1
  obtain ⟨ln, nz⟩ := textL_len eE
  have hb := parse_back six H L (by omega) (by omega) eE
  have cp : ∀ W : World, RTabs W → Calls Tryd.prog 9 #[.string ⟨(textL six H L).toArray⟩] W fun e w' => e = .returned (.tuple #[.agg #[.bool six, .int .u64 (H : Int), .int .u64 (L : Int)], .int .i64 0]) ∧ Below W.heap.size W w' := fun W hW => by
    refine (parse_calls (textL six H L) (by omega) W hW).mono ?_
    rintro e w' ⟨he, hw⟩
    rw [hb] at he
    exact ⟨he, hw⟩
  have nz2 : (textL six H L == []) = false := by simpa using nz
  by_cases same : six = six2 ∧ H = H2 ∧ L = L2
  · obtain ⟨rfl, rfl, rfl⟩ := same
    exact Back.same six hi lo hi2 lo2 H L H L (textL six H L) (textL six H L) (Lib.hid c0) (Lib.hid d0) (Lib.hid c1) (Lib.hid d1) (Lib.hid cp) (Lib.hid (may_true o5)) nz2 w ht
  · have hne : (textL six H L == textL six2 H2 L2) = false := by
      rw [beq_eq_false_iff_ne]
      intro h
      exact same (text_inj (by omega) (by omega) eE (by omega) (by omega) eE2 h)
    by_cases e6 : six = six2
    · subst e6
      by_cases eH : H = H2
      · subst eH
        have eL : ¬ L = L2 := fun e => same ⟨rfl, rfl, e⟩
        exact Back.low six hi lo hi2 lo2 H L H L2 (textL six H L) (textL six H L2) (Lib.hid c0) (Lib.hid d0) (Lib.hid c1) (Lib.hid d1) (Lib.hid cp) (Lib.hid (may_true o5)) nz2 (by simp; omega) (by omega) hne w ht
      · exact Back.high six hi lo hi2 lo2 H L H2 L2 (textL six H L) (textL six H2 L2) (Lib.hid c0) (Lib.hid d0) (Lib.hid c1) (Lib.hid d1) (Lib.hid cp) (Lib.hid (may_true o5)) nz2 (by simp; omega) (by omega) hne w ht
    · exact Back.fam six hi lo six2 hi2 lo2 H L H2 L2 (textL six H L) (textL six2 H2 L2) (Lib.hid c0) (Lib.hid d0) (Lib.hid c1) (Lib.hid d1) (Lib.hid cp) (Lib.hid (may_true o5)) nz2 (by simpa using e6) e6 hne w ht

theorem Back.own : ownKnob Tryd.prog.godebug = none := by kernel_rfl
set_option maxRecDepth 100000 in
theorem Back.lifted (os : Os) (started : os.Started) (H : Type) (enc : TypeId × Value → H) :
    ReturnsInHanded {} Tryd.checked os 5 .any (fun w args => (Rows.addrBackSpec.pre enc Tryd.prog Tryd.f5 [] false w args ∧ laidMetH Tryd.prog Rows.addrBackRow.laid w) ∧ sizedMet enc Tryd.prog Tryd.f5 (OpenSpec.ofChange Rows.addrBackSpec) false w args) (Rows.addrBackSpec.post enc Tryd.prog Tryd.f5 false true false false) := by
  refine handed_and_shaped (C := Tryd.checked) (X := fun w _ => laidMetH Tryd.prog Rows.addrBackRow.laid w) (fun _ _ _ hh h => h.of_heap hh) Back.own started (by kernel_rfl) Tryd.func5
    (ChangeSpec.witness_at (enc := enc) (C := Tryd.checked) (os := os) (X := fun w _ => laidMetH Tryd.prog Rows.addrBackRow.laid w) false (Laid7.world os) #[.agg #[.bool false, .int .u64 0, .int .u64 0], .agg #[.bool false, .int .u64 0, .int .u64 0]] 8 rfl (by kernel_rfl) (by kernel_rfl) (by kernel_rfl) (by kernel_rfl) (by kernel_rfl) (Laid7.met os _)) ?_
  intro W base args ds gs before hval0 hW hcnd _ hL hS
  have hT : Laid7.Tabs W := Laid7.of hL hS
  have hval : ∀ (j : Nat) t v, Tryd.f5.params[j]? = some t → args[j]? = some v → Value.okWide Tryd.prog W .any base t v := hval0
  have hW' := hW
  obtain ⟨p, q, hA0, hV, rfl, hfz, hnd⟩ := hW
  have hA : DataW.TrodAll enc Tryd.prog W 0 (fun _ => true) true Tryd.f5.params.toList args.toList ds p := hA0
  rw [Tryd.params5] at hA hval
  obtain ⟨v0, vs0, d0, ds0, p0, q0, hargs, rfl, rfl, rd0, r0⟩ := trodAll_cons hA
  obtain ⟨v1, vs1, d1, ds1, p1, q1, rfl, rfl, rfl, rd1, r1⟩ := trodAll_cons r0
  obtain ⟨rfl, rfl, rfl⟩ := trodAll_nil r1
  obtain rfl : args = #[v0, v1] := by cases args; simp_all
  obtain ⟨rfl, rfl⟩ := trodVars_none hV
  obtain ⟨s0, h0, l0, rfl, rfl, rfl, wa0, wb0⟩ := openRaw (hval 0 32 v0 rfl rfl) rd0
  obtain ⟨s1, h1, l1, rfl, rfl, rfl, wa1, wb1⟩ := openRaw (hval 1 32 v1 rfl rfl) rd1
  clear hA0 hval0
  simp only [List.append_nil] at hW'
  refine (Back.walk s0 h0 l0 s1 h1 l1 (u64_of_wf wa0).1 (u64_of_wf wa0).2 (u64_of_wf wb0).1 (u64_of_wf wb0).2 (u64_of_wf wa1).1 (u64_of_wf wa1).2 (u64_of_wf wb1).1 (u64_of_wf wb1).2 W hT).mono fun e W' ⟨he, hb⟩ => ?_
  subst he
  exact ⟨_, rfl, postBelow (pa := []) (pv := []) hW' hb (fun _ _ _ => trodAll_cons_mk (shut_bool Tryd.underlying4 _) trodAll_mk0) (fun sp _ => trodAll_cons_mk (shutRaw wa0 wb0) (trodAll_cons_mk (shutRaw wa1 wb1) trodAll_mk0)) (fun _ _ => rfl) rfl⟩

theorem Back.holds : Rows.AddrBackSaid :=
  OpenClaim.holds_of_wide 5 Tryd.f5 rfl rfl rfl rfl rfl rfl rfl ⟨rfl, rfl, rfl, rfl, rfl⟩ rfl rfl rfl rfl rfl (by kernel_rfl) Tryd.func5 (by kernel_rfl)
    (of_decide_eq_true (by kernel_rfl)) (by unfold Func.isWrapper; first | (rw [if_pos (by decide +kernel)]; kernel_rfl) | (rw [if_neg (by decide +kernel)]; exact ⟨rfl, rfl⟩))
    (fun os started H enc _ => Back.lifted os started H enc)
#print axioms Back.holds
theorem Back.card : Rows.AddrBackCardSaid :=
  Claim7.holds_tied_plain_at .later [] Rows.addrBackCard.laidKinds true Rows.addrBackCard.stood.harness true
    Back.holds (fun _ h => by cases h) (by kernel_rfl) (fun _ h => by cases h) addrBack_row_tie rfl ⟨rfl, rfl⟩ (by kernel_rfl) rfl
    (fun f fn hf hfn => by
      obtain rfl : f = 5 := Option.some.inj ((show Tryd.prog.funcNamed "whipcord/whipcordkeep.AddrBack" = some 5 by kernel_rfl).symm.trans hf) |>.symm
      obtain rfl : fn = Tryd.f5 := (Option.some.inj (Tryd.func5.symm.trans hfn)).symm
      exact ⟨by kernel_rfl, fun j t ht => by
        rw [Tryd.params5] at ht
        match j, ht with
        | 0, ht => obtain rfl := Option.some.inj ht; exact (show Tryd.prog.wantsStandIn 32 = false by kernel_rfl)
        | 1, ht => obtain rfl := Option.some.inj ht; exact (show Tryd.prog.wantsStandIn 32 = false by kernel_rfl)
        | j + 2, ht => simp at ht⟩)
    (by kernel_rfl)
#print axioms Back.card
end Go.Proofs.YtnmocjlleejijaaDoor

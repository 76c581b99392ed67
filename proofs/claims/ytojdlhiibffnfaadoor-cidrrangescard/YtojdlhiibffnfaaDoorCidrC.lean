/-
  cidr.rangeWithin.
-/
import Derived.Test.YtojdlhiibffnfaaDoorCidrB
import Derived.Test.YtojdlhiibffnfaaDoorPreAt
import Derived.Test.YtojdlhiibffnfaaDoorVia
namespace Go.Proofs.YtojdlhiibffnfaaDoor
open Go.RowKit
set_option linter.unusedVariables false
set_option linter.unusedSimpArgs false

theorem less_is (s t : Bool) (x y : Nat) (b : Bool) (h : decide (x < y) = b) (w : World) :
    Calls Tryd.prog 34 #[.agg #[.bool s, .int .u64 (aH x), .int .u64 (aL x)], .agg #[.bool t, .int .u64 (aH y), .int .u64 (aL y)]] w fun e w' => e = .returned (.bool b) ∧ Below w.heap.size w w' := by
  have := less_calls s t x y w
  rw [h] at this
  exact this
set_option maxHeartbeats 1000000 in
theorem rw_none1 (six : Bool) (x k a b : Nat) (hA : AL six x k) (h : x + (2 ^ k - 1) < a) (w : World) :
    Calls Tryd.prog 35 #[.agg #[.bool six, .int .u64 (aH x), .int .u64 (aL x), .int .i64 ((wideN six - k : Nat) : Int)], .agg #[.bool six, .int .u64 (aH a), .int .u64 (aL a)], .agg #[.bool six, .int .u64 (aH b), .int .u64 (aL b)]] w (PresOut [] w) := by
  have L0 := Lib.hid (less_is six six (x + (2 ^ k - 1)) a true (decide_eq_true h))
  go_enter Tryd.func35, Tryd.ntmps35
  go_wp2_with fail
  refine (span_al hA _).mono ?_
  rintro e w1 ⟨rfl, hb1⟩
  have b1 := thenBelow (show Below w.heap.size w _ from (by first | exact Below.refl _ _ | exact (Below.refl _ _).alloc (Nat.le_refl _) _ | exact ((Below.refl _ _).alloc (Nat.le_refl _) _).alloc (by simp) _ | exact (((Below.refl _ _).alloc (Nat.le_refl _) _).alloc (by simp) _).alloc (by simp; omega) _)) hb1
  have Gp := (PreAt.new (w) six (aH x) (aL x) ((wideN six - k : Nat) : Int) 44).via (by first | exact Below.refl _ _ | exact (Below.refl _ _).alloc (Nat.le_refl _) _ | exact ((Below.refl _ _).alloc (Nat.le_refl _) _).alloc (by simp) _ | exact (((Below.refl _ _).alloc (Nat.le_refl _) _).alloc (by simp) _).alloc (by simp; omega) _) hb1
  try simp only [World.size_alloc] at Gp
  have Fp := Lib.hid Gp
  clear Gp
  have Gfi := (AddrAt.new ((w.alloc (.cells #[.bool six, .int .u64 (aH x), .int .u64 (aL x), .int .i64 ((wideN six - k : Nat) : Int)] 44))) six (aH a) (aL a) 24).via (by first | exact Below.refl _ _ | exact (Below.refl _ _).alloc (Nat.le_refl _) _ | exact ((Below.refl _ _).alloc (Nat.le_refl _) _).alloc (by simp) _ | exact (((Below.refl _ _).alloc (Nat.le_refl _) _).alloc (by simp) _).alloc (by simp; omega) _) hb1
  try simp only [World.size_alloc] at Gfi
  have Ffi := Lib.hid Gfi
  clear Gfi
  have Gla := (AddrAt.new (((w.alloc (.cells #[.bool six, .int .u64 (aH x), .int .u64 (aL x), .int .i64 ((wideN six - k : Nat) : Int)] 44)).alloc (.cells #[.bool six, .int .u64 (aH a), .int .u64 (aL a)] 24))) six (aH b) (aL b) 24).via (by first | exact Below.refl _ _ | exact (Below.refl _ _).alloc (Nat.le_refl _) _ | exact ((Below.refl _ _).alloc (Nat.le_refl _) _).alloc (by simp) _ | exact (((Below.refl _ _).alloc (Nat.le_refl _) _).alloc (by simp) _).alloc (by simp; omega) _) hb1
  try simp only [World.size_alloc] at Gla
  have Fla := Lib.hid Gla
  clear Gla
  clear hb1
  obtain ⟨fi_0, fi_1, fi_2, fi_l⟩ := Ffi.out
  have fi_m := Nat.lt_succ_of_lt fi_l
  try simp only [Nat.succ_eq_add_one, Nat.add_lt_add_iff_right] at fi_m
  go_wp2_with fail
  refine (L0.out _).mono ?_
  rintro e w2 ⟨rfl, hb2⟩
  have b2 := thenBelow (thenBelow b1 (by first | exact Below.refl _ _ | exact (Below.refl _ _).alloc (Nat.le_refl _) _ | exact ((Below.refl _ _).alloc (Nat.le_refl _) _).alloc (by simp) _ | exact (((Below.refl _ _).alloc (Nat.le_refl _) _).alloc (by simp) _).alloc (by simp; omega) _)) hb2
  clear fi_0 fi_1 fi_2 fi_l fi_m
  have Fp := Lib.hid (Fp.out.via (by first | exact Below.refl _ _ | exact (Below.refl _ _).alloc (Nat.le_refl _) _ | exact ((Below.refl _ _).alloc (Nat.le_refl _) _).alloc (by simp) _ | exact (((Below.refl _ _).alloc (Nat.le_refl _) _).alloc (by simp) _).alloc (by simp; omega) _) hb2)
  have Ffi := Lib.hid (Ffi.out.via (by first | exact Below.refl _ _ | exact (Below.refl _ _).alloc (Nat.le_refl _) _ | exact ((Below.refl _ _).alloc (Nat.le_refl _) _).alloc (by simp) _ | exact (((Below.refl _ _).alloc (Nat.le_refl _) _).alloc (by simp) _).alloc (by simp; omega) _) hb2)
  have Fla := Lib.hid (Fla.out.via (by first | exact Below.refl _ _ | exact (Below.refl _ _).alloc (Nat.le_refl _) _ | exact ((Below.refl _ _).alloc (Nat.le_refl _) _).alloc (by simp) _ | exact (((Below.refl _ _).alloc (Nat.le_refl _) _).alloc (by simp) _).alloc (by simp; omega) _) hb2)
  have Glo := (AddrAt.new (w1) six (aH x) (aL x) 24).via (by first | exact Below.refl _ _ | exact (Below.refl _ _).alloc (Nat.le_refl _) _ | exact ((Below.refl _ _).alloc (Nat.le_refl _) _).alloc (by simp) _ | exact (((Below.refl _ _).alloc (Nat.le_refl _) _).alloc (by simp) _).alloc (by simp; omega) _) hb2
  try simp only [World.size_alloc] at Glo
  have Flo := Lib.hid Glo
  clear Glo
  have Ghi := (AddrAt.new ((w1.alloc (.cells #[.bool six, .int .u64 (aH x), .int .u64 (aL x)] 24))) six (aH (x + (2 ^ k - 1))) (aL (x + (2 ^ k - 1))) 24).via (by first | exact Below.refl _ _ | exact (Below.refl _ _).alloc (Nat.le_refl _) _ | exact ((Below.refl _ _).alloc (Nat.le_refl _) _).alloc (by simp) _ | exact (((Below.refl _ _).alloc (Nat.le_refl _) _).alloc (by simp) _).alloc (by simp; omega) _) hb2
  try simp only [World.size_alloc] at Ghi
  have Fhi := Lib.hid Ghi
  clear Ghi
  clear hb2 b1
  go_wp2
  go_returns
  exact ⟨_, rfl, owned_nil _ _, (thenBelow b2 (by first | exact Below.refl _ _ | exact (Below.refl _ _).alloc (Nat.le_refl _) _ | exact ((Below.refl _ _).alloc (Nat.le_refl _) _).alloc (by simp) _ | exact (((Below.refl _ _).alloc (Nat.le_refl _) _).alloc (by simp) _).alloc (by simp; omega) _))⟩
set_option maxHeartbeats 1000000 in
theorem rw_none2 (six : Bool) (x k a b : Nat) (hA : AL six x k) (h0 : ¬ x + (2 ^ k - 1) < a) (h : b < x) (w : World) :
    Calls Tryd.prog 35 #[.agg #[.bool six, .int .u64 (aH x), .int .u64 (aL x), .int .i64 ((wideN six - k : Nat) : Int)], .agg #[.bool six, .int .u64 (aH a), .int .u64 (aL a)], .agg #[.bool six, .int .u64 (aH b), .int .u64 (aL b)]] w (PresOut [] w) := by
  have L0 := Lib.hid (less_is six six (x + (2 ^ k - 1)) a false (decide_eq_false h0))
  have L1 := Lib.hid (less_is six six b x true (decide_eq_true h))
  go_enter Tryd.func35, Tryd.ntmps35
  go_wp2_with fail
  refine (span_al hA _).mono ?_
  rintro e w1 ⟨rfl, hb1⟩
  have b1 := thenBelow (show Below w.heap.size w _ from (by first | exact Below.refl _ _ | exact (Below.refl _ _).alloc (Nat.le_refl _) _ | exact ((Below.refl _ _).alloc (Nat.le_refl _) _).alloc (by simp) _ | exact (((Below.refl _ _).alloc (Nat.le_refl _) _).alloc (by simp) _).alloc (by simp; omega) _)) hb1
  have Gp := (PreAt.new (w) six (aH x) (aL x) ((wideN six - k : Nat) : Int) 44).via (by first | exact Below.refl _ _ | exact (Below.refl _ _).alloc (Nat.le_refl _) _ | exact ((Below.refl _ _).alloc (Nat.le_refl _) _).alloc (by simp) _ | exact (((Below.refl _ _).alloc (Nat.le_refl _) _).alloc (by simp) _).alloc (by simp; omega) _) hb1
  try simp only [World.size_alloc] at Gp
  have Fp := Lib.hid Gp
  clear Gp
  have Gfi := (AddrAt.new ((w.alloc (.cells #[.bool six, .int .u64 (aH x), .int .u64 (aL x), .int .i64 ((wideN six - k : Nat) : Int)] 44))) six (aH a) (aL a) 24).via (by first | exact Below.refl _ _ | exact (Below.refl _ _).alloc (Nat.le_refl _) _ | exact ((Below.refl _ _).alloc (Nat.le_refl _) _).alloc (by simp) _ | exact (((Below.refl _ _).alloc (Nat.le_refl _) _).alloc (by simp) _).alloc (by simp; omega) _) hb1
  try simp only [World.size_alloc] at Gfi
  have Ffi := Lib.hid Gfi
  clear Gfi
  have Gla := (AddrAt.new (((w.alloc (.cells #[.bool six, .int .u64 (aH x), .int .u64 (aL x), .int .i64 ((wideN six - k : Nat) : Int)] 44)).alloc (.cells #[.bool six, .int .u64 (aH a), .int .u64 (aL a)] 24))) six (aH b) (aL b) 24).via (by first | exact Below.refl _ _ | exact (Below.refl _ _).alloc (Nat.le_refl _) _ | exact ((Below.refl _ _).alloc (Nat.le_refl _) _).alloc (by simp) _ | exact (((Below.refl _ _).alloc (Nat.le_refl _) _).alloc (by simp) _).alloc (by simp; omega) _) hb1
  try simp only [World.size_alloc] at Gla
  have Fla := Lib.hid Gla
  clear Gla
  clear hb1
  obtain ⟨fi_0, fi_1, fi_2, fi_l⟩ := Ffi.out
  have fi_m := Nat.lt_succ_of_lt fi_l
  try simp only [Nat.succ_eq_add_one, Nat.add_lt_add_iff_right] at fi_m
  go_wp2_with fail
  refine (L0.out _).mono ?_
  rintro e w2 ⟨rfl, hb2⟩
  have b2 := thenBelow (thenBelow b1 (by first | exact Below.refl _ _ | exact (Below.refl _ _).alloc (Nat.le_refl _) _ | exact ((Below.refl _ _).alloc (Nat.le_refl _) _).alloc (by simp) _ | exact (((Below.refl _ _).alloc (Nat.le_refl _) _).alloc (by simp) _).alloc (by simp; omega) _)) hb2
  clear fi_0 fi_1 fi_2 fi_l fi_m
  have Fp := Lib.hid (Fp.out.via (by first | exact Below.refl _ _ | exact (Below.refl _ _).alloc (Nat.le_refl _) _ | exact ((Below.refl _ _).alloc (Nat.le_refl _) _).alloc (by simp) _ | exact (((Below.refl _ _).alloc (Nat.le_refl _) _).alloc (by simp) _).alloc (by simp; omega) _) hb2)
  have Ffi := Lib.hid (Ffi.out.via (by first | exact Below.refl _ _ | exact (Below.refl _ _).alloc (Nat.le_refl _) _ | exact ((Below.refl _ _).alloc (Nat.le_refl _) _).alloc (by simp) _ | exact (((Below.refl _ _).alloc (Nat.le_refl _) _).alloc (by simp) _).alloc (by simp; omega) _) hb2)
  have Fla := Lib.hid (Fla.out.via (by first | exact Below.refl _ _ | exact (Below.refl _ _).alloc (Nat.le_refl _) _ | exact ((Below.refl _ _).alloc (Nat.le_refl _) _).alloc (by simp) _ | exact (((Below.refl _ _).alloc (Nat.le_refl _) _).alloc (by simp) _).alloc (by simp; omega) _) hb2)
  have Glo := (AddrAt.new (w1) six (aH x) (aL x) 24).via (by first | exact Below.refl _ _ | exact (Below.refl _ _).alloc (Nat.le_refl _) _ | exact ((Below.refl _ _).alloc (Nat.le_refl _) _).alloc (by simp) _ | exact (((Below.refl _ _).alloc (Nat.le_refl _) _).alloc (by simp) _).alloc (by simp; omega) _) hb2
  try simp only [World.size_alloc] at Glo
  have Flo := Lib.hid Glo
  clear Glo
  have Ghi := (AddrAt.new ((w1.alloc (.cells #[.bool six, .int .u64 (aH x), .int .u64 (aL x)] 24))) six (aH (x + (2 ^ k - 1))) (aL (x + (2 ^ k - 1))) 24).via (by first | exact Below.refl _ _ | exact (Below.refl _ _).alloc (Nat.le_refl _) _ | exact ((Below.refl _ _).alloc (Nat.le_refl _) _).alloc (by simp) _ | exact (((Below.refl _ _).alloc (Nat.le_refl _) _).alloc (by simp) _).alloc (by simp; omega) _) hb2
  try simp only [World.size_alloc] at Ghi
  have Fhi := Lib.hid Ghi
  clear Ghi
  clear hb2 b1
  obtain ⟨la_0, la_1, la_2, la_l⟩ := Fla.out
  have la_m := Nat.lt_succ_of_lt la_l
  try simp only [Nat.succ_eq_add_one, Nat.add_lt_add_iff_right] at la_m
  obtain ⟨lo_0, lo_1, lo_2, lo_l⟩ := Flo.out
  have lo_m := Nat.lt_succ_of_lt lo_l
  try simp only [Nat.succ_eq_add_one, Nat.add_lt_add_iff_right] at lo_m
  go_wp2_with fail
  refine (L1.out _).mono ?_
  rintro e w3 ⟨rfl, hb3⟩
  have b3 := thenBelow (thenBelow b2 (by first | exact Below.refl _ _ | exact (Below.refl _ _).alloc (Nat.le_refl _) _ | exact ((Below.refl _ _).alloc (Nat.le_refl _) _).alloc (by simp) _ | exact (((Below.refl _ _).alloc (Nat.le_refl _) _).alloc (by simp) _).alloc (by simp; omega) _)) hb3
  clear la_0 la_1 la_2 la_l la_m lo_0 lo_1 lo_2 lo_l lo_m
  have Fp := Lib.hid (Fp.out.via (by first | exact Below.refl _ _ | exact (Below.refl _ _).alloc (Nat.le_refl _) _ | exact ((Below.refl _ _).alloc (Nat.le_refl _) _).alloc (by simp) _ | exact (((Below.refl _ _).alloc (Nat.le_refl _) _).alloc (by simp) _).alloc (by simp; omega) _) hb3)
  have Ffi := Lib.hid (Ffi.out.via (by first | exact Below.refl _ _ | exact (Below.refl _ _).alloc (Nat.le_refl _) _ | exact ((Below.refl _ _).alloc (Nat.le_refl _) _).alloc (by simp) _ | exact (((Below.refl _ _).alloc (Nat.le_refl _) _).alloc (by simp) _).alloc (by simp; omega) _) hb3)
  have Fla := Lib.hid (Fla.out.via (by first | exact Below.refl _ _ | exact (Below.refl _ _).alloc (Nat.le_refl _) _ | exact ((Below.refl _ _).alloc (Nat.le_refl _) _).alloc (by simp) _ | exact (((Below.refl _ _).alloc (Nat.le_refl _) _).alloc (by simp) _).alloc (by simp; omega) _) hb3)
  have Flo := Lib.hid (Flo.out.via (by first | exact Below.refl _ _ | exact (Below.refl _ _).alloc (Nat.le_refl _) _ | exact ((Below.refl _ _).alloc (Nat.le_refl _) _).alloc (by simp) _ | exact (((Below.refl _ _).alloc (Nat.le_refl _) _).alloc (by simp) _).alloc (by simp; omega) _) hb3)
  have Fhi := Lib.hid (Fhi.out.via (by first | exact Below.refl _ _ | exact (Below.refl _ _).alloc (Nat.le_refl _) _ | exact ((Below.refl _ _).alloc (Nat.le_refl _) _).alloc (by simp) _ | exact (((Below.refl _ _).alloc (Nat.le_refl _) _).alloc (by simp) _).alloc (by simp; omega) _) hb3)
  clear hb3 b2
  go_wp2
  go_returns
  exact ⟨_, rfl, owned_nil _ _, (thenBelow b3 (by first | exact Below.refl _ _ | exact (Below.refl _ _).alloc (Nat.le_refl _) _ | exact ((Below.refl _ _).alloc (Nat.le_refl _) _).alloc (by simp) _ | exact (((Below.refl _ _).alloc (Nat.le_refl _) _).alloc (by simp) _).alloc (by simp; omega) _))⟩
set_option maxHeartbeats 1000000 in
theorem rw_all (six : Bool) (x k a b : Nat) (hA : AL six x k) (h0 : ¬ x + (2 ^ k - 1) < a) (h1 : ¬ b < x) (h2 : ¬ x < a) (h3 : ¬ b < x + (2 ^ k - 1)) (w : World) :
    Calls Tryd.prog 35 #[.agg #[.bool six, .int .u64 (aH x), .int .u64 (aL x), .int .i64 ((wideN six - k : Nat) : Int)], .agg #[.bool six, .int .u64 (aH a), .int .u64 (aL a)], .agg #[.bool six, .int .u64 (aH b), .int .u64 (aL b)]] w (PresOut [(six, x, ((wideN six - k : Nat) : Int))] w) := by
  have L0 := Lib.hid (less_is six six (x + (2 ^ k - 1)) a false (decide_eq_false h0))
  have L1 := Lib.hid (less_is six six b x false (decide_eq_false h1))
  have L2 := Lib.hid (less_is six six x a false (decide_eq_false h2))
  have L3 := Lib.hid (less_is six six b (x + (2 ^ k - 1)) false (decide_eq_false h3))
  go_enter Tryd.func35, Tryd.ntmps35
  go_wp2_with fail
  refine (span_al hA _).mono ?_
  rintro e w1 ⟨rfl, hb1⟩
  have b1 := thenBelow (show Below w.heap.size w _ from (by first | exact Below.refl _ _ | exact (Below.refl _ _).alloc (Nat.le_refl _) _ | exact ((Below.refl _ _).alloc (Nat.le_refl _) _).alloc (by simp) _ | exact (((Below.refl _ _).alloc (Nat.le_refl _) _).alloc (by simp) _).alloc (by simp; omega) _)) hb1
  have Gp := (PreAt.new (w) six (aH x) (aL x) ((wideN six - k : Nat) : Int) 44).via (by first | exact Below.refl _ _ | exact (Below.refl _ _).alloc (Nat.le_refl _) _ | exact ((Below.refl _ _).alloc (Nat.le_refl _) _).alloc (by simp) _ | exact (((Below.refl _ _).alloc (Nat.le_refl _) _).alloc (by simp) _).alloc (by simp; omega) _) hb1
  try simp only [World.size_alloc] at Gp
  have Fp := Lib.hid Gp
  clear Gp
  have Gfi := (AddrAt.new ((w.alloc (.cells #[.bool six, .int .u64 (aH x), .int .u64 (aL x), .int .i64 ((wideN six - k : Nat) : Int)] 44))) six (aH a) (aL a) 24).via (by first | exact Below.refl _ _ | exact (Below.refl _ _).alloc (Nat.le_refl _) _ | exact ((Below.refl _ _).alloc (Nat.le_refl _) _).alloc (by simp) _ | exact (((Below.refl _ _).alloc (Nat.le_refl _) _).alloc (by simp) _).alloc (by simp; omega) _) hb1
  try simp only [World.size_alloc] at Gfi
  have Ffi := Lib.hid Gfi
  clear Gfi
  have Gla := (AddrAt.new (((w.alloc (.cells #[.bool six, .int .u64 (aH x), .int .u64 (aL x), .int .i64 ((wideN six - k : Nat) : Int)] 44)).alloc (.cells #[.bool six, .int .u64 (aH a), .int .u64 (aL a)] 24))) six (aH b) (aL b) 24).via (by first | exact Below.refl _ _ | exact (Below.refl _ _).alloc (Nat.le_refl _) _ | exact ((Below.refl _ _).alloc (Nat.le_refl _) _).alloc (by simp) _ | exact (((Below.refl _ _).alloc (Nat.le_refl _) _).alloc (by simp) _).alloc (by simp; omega) _) hb1
  try simp only [World.size_alloc] at Gla
  have Fla := Lib.hid Gla
  clear Gla
  clear hb1
  obtain ⟨fi_0, fi_1, fi_2, fi_l⟩ := Ffi.out
  have fi_m := Nat.lt_succ_of_lt fi_l
  try simp only [Nat.succ_eq_add_one, Nat.add_lt_add_iff_right] at fi_m
  go_wp2_with fail
  refine (L0.out _).mono ?_
  rintro e w2 ⟨rfl, hb2⟩
  have b2 := thenBelow (thenBelow b1 (by first | exact Below.refl _ _ | exact (Below.refl _ _).alloc (Nat.le_refl _) _ | exact ((Below.refl _ _).alloc (Nat.le_refl _) _).alloc (by simp) _ | exact (((Below.refl _ _).alloc (Nat.le_refl _) _).alloc (by simp) _).alloc (by simp; omega) _)) hb2
  clear fi_0 fi_1 fi_2 fi_l fi_m
  have Fp := Lib.hid (Fp.out.via (by first | exact Below.refl _ _ | exact (Below.refl _ _).alloc (Nat.le_refl _) _ | exact ((Below.refl _ _).alloc (Nat.le_refl _) _).alloc (by simp) _ | exact (((Below.refl _ _).alloc (Nat.le_refl _) _).alloc (by simp) _).alloc (by simp; omega) _) hb2)
  have Ffi := Lib.hid (Ffi.out.via (by first | exact Below.refl _ _ | exact (Below.refl _ _).alloc (Nat.le_refl _) _ | exact ((Below.refl _ _).alloc (Nat.le_refl _) _).alloc (by simp) _ | exact (((Below.refl _ _).alloc (Nat.le_refl _) _).alloc (by simp) _).alloc (by simp; omega) _) hb2)
  have Fla := Lib.hid (Fla.out.via (by first | exact Below.refl _ _ | exact (Below.refl _ _).alloc (Nat.le_refl _) _ | exact ((Below.refl _ _).alloc (Nat.le_refl _) _).alloc (by simp) _ | exact (((Below.refl _ _).alloc (Nat.le_refl _) _).alloc (by simp) _).alloc (by simp; omega) _) hb2)
  have Glo := (AddrAt.new (w1) six (aH x) (aL x) 24).via (by first | exact Below.refl _ _ | exact (Below.refl _ _).alloc (Nat.le_refl _) _ | exact ((Below.refl _ _).alloc (Nat.le_refl _) _).alloc (by simp) _ | exact (((Below.refl _ _).alloc (Nat.le_refl _) _).alloc (by simp) _).alloc (by simp; omega) _) hb2
  try simp only [World.size_alloc] at Glo
  have Flo := Lib.hid Glo
  clear Glo
  have Ghi := (AddrAt.new ((w1.alloc (.cells #[.bool six, .int .u64 (aH x), .int .u64 (aL x)] 24))) six (aH (x + (2 ^ k - 1))) (aL (x + (2 ^ k - 1))) 24).via (by first | exact Below.refl _ _ | exact (Below.refl _ _).alloc (Nat.le_refl _) _ | exact ((Below.refl _ _).alloc (Nat.le_refl _) _).alloc (by simp) _ | exact (((Below.refl _ _).alloc (Nat.le_refl _) _).alloc (by simp) _).alloc (by simp; omega) _) hb2
  try simp only [World.size_alloc] at Ghi
  have Fhi := Lib.hid Ghi
  clear Ghi
  clear hb2 b1
  obtain ⟨la_0, la_1, la_2, la_l⟩ := Fla.out
  have la_m := Nat.lt_succ_of_lt la_l
  try simp only [Nat.succ_eq_add_one, Nat.add_lt_add_iff_right] at la_m
  obtain ⟨lo_0, lo_1, lo_2, lo_l⟩ := Flo.out
  have lo_m := Nat.lt_succ_of_lt lo_l
  try simp only [Nat.succ_eq_add_one, Nat.add_lt_add_iff_right] at lo_m
  go_wp2_with fail
  refine (L1.out _).mono ?_
  rintro e w3 ⟨rfl, hb3⟩
  have b3 := thenBelow (thenBelow b2 (by first | exact Below.refl _ _ | exact (Below.refl _ _).alloc (Nat.le_refl _) _ | exact ((Below.refl _ _).alloc (Nat.le_refl _) _).alloc (by simp) _ | exact (((Below.refl _ _).alloc (Nat.le_refl _) _).alloc (by simp) _).alloc (by simp; omega) _)) hb3
  clear la_0 la_1 la_2 la_l la_m lo_0 lo_1 lo_2 lo_l lo_m
  have Fp := Lib.hid (Fp.out.via (by first | exact Below.refl _ _ | exact (Below.refl _ _).alloc (Nat.le_refl _) _ | exact ((Below.refl _ _).alloc (Nat.le_refl _) _).alloc (by simp) _ | exact (((Below.refl _ _).alloc (Nat.le_refl _) _).alloc (by simp) _).alloc (by simp; omega) _) hb3)
  have Ffi := Lib.hid (Ffi.out.via (by first | exact Below.refl _ _ | exact (Below.refl _ _).alloc (Nat.le_refl _) _ | exact ((Below.refl _ _).alloc (Nat.le_refl _) _).alloc (by simp) _ | exact (((Below.refl _ _).alloc (Nat.le_refl _) _).alloc (by simp) _).alloc (by simp; omega) _) hb3)
  have Fla := Lib.hid (Fla.out.via (by first | exact Below.refl _ _ | exact (Below.refl _ _).alloc (Nat.le_refl _) _ | exact ((Below.refl _ _).alloc (Nat.le_refl _) _).alloc (by simp) _ | exact (((Below.refl _ _).alloc (Nat.le_refl _) _).alloc (by simp) _).alloc (by simp; omega) _) hb3)
  have Flo := Lib.hid (Flo.out.via (by first | exact Below.refl _ _ | exact (Below.refl _ _).alloc (Nat.le_refl _) _ | exact ((Below.refl _ _).alloc (Nat.le_refl _) _).alloc (by simp) _ | exact (((Below.refl _ _).alloc (Nat.le_refl _) _).alloc (by simp) _).alloc (by simp; omega) _) hb3)
  have Fhi := Lib.hid (Fhi.out.via (by first | exact Below.refl _ _ | exact (Below.refl _ _).alloc (Nat.le_refl _) _ | exact ((Below.refl _ _).alloc (Nat.le_refl _) _).alloc (by simp) _ | exact (((Below.refl _ _).alloc (Nat.le_refl _) _).alloc (by simp) _).alloc (by simp; omega) _) hb3)
  clear hb3 b2
  obtain ⟨lo_0, lo_1, lo_2, lo_l⟩ := Flo.out
  have lo_m := Nat.lt_succ_of_lt lo_l
  try simp only [Nat.succ_eq_add_one, Nat.add_lt_add_iff_right] at lo_m
  obtain ⟨fi_0, fi_1, fi_2, fi_l⟩ := Ffi.out
  have fi_m := Nat.lt_succ_of_lt fi_l
  try simp only [Nat.succ_eq_add_one, Nat.add_lt_add_iff_right] at fi_m
  go_wp2_with fail
  refine (L2.out _).mono ?_
  rintro e w4 ⟨rfl, hb4⟩
  have b4 := thenBelow (thenBelow b3 (by first | exact Below.refl _ _ | exact (Below.refl _ _).alloc (Nat.le_refl _) _ | exact ((Below.refl _ _).alloc (Nat.le_refl _) _).alloc (by simp) _ | exact (((Below.refl _ _).alloc (Nat.le_refl _) _).alloc (by simp) _).alloc (by simp; omega) _)) hb4
  clear lo_0 lo_1 lo_2 lo_l lo_m fi_0 fi_1 fi_2 fi_l fi_m
  have Fp := Lib.hid (Fp.out.via (by first | exact Below.refl _ _ | exact (Below.refl _ _).alloc (Nat.le_refl _) _ | exact ((Below.refl _ _).alloc (Nat.le_refl _) _).alloc (by simp) _ | exact (((Below.refl _ _).alloc (Nat.le_refl _) _).alloc (by simp) _).alloc (by simp; omega) _) hb4)
  have Ffi := Lib.hid (Ffi.out.via (by first | exact Below.refl _ _ | exact (Below.refl _ _).alloc (Nat.le_refl _) _ | exact ((Below.refl _ _).alloc (Nat.le_refl _) _).alloc (by simp) _ | exact (((Below.refl _ _).alloc (Nat.le_refl _) _).alloc (by simp) _).alloc (by simp; omega) _) hb4)
  have Fla := Lib.hid (Fla.out.via (by first | exact Below.refl _ _ | exact (Below.refl _ _).alloc (Nat.le_refl _) _ | exact ((Below.refl _ _).alloc (Nat.le_refl _) _).alloc (by simp) _ | exact (((Below.refl _ _).alloc (Nat.le_refl _) _).alloc (by simp) _).alloc (by simp; omega) _) hb4)
  have Flo := Lib.hid (Flo.out.via (by first | exact Below.refl _ _ | exact (Below.refl _ _).alloc (Nat.le_refl _) _ | exact ((Below.refl _ _).alloc (Nat.le_refl _) _).alloc (by simp) _ | exact (((Below.refl _ _).alloc (Nat.le_refl _) _).alloc (by simp) _).alloc (by simp; omega) _) hb4)
  have Fhi := Lib.hid (Fhi.out.via (by first | exact Below.refl _ _ | exact (Below.refl _ _).alloc (Nat.le_refl _) _ | exact ((Below.refl _ _).alloc (Nat.le_refl _) _).alloc (by simp) _ | exact (((Below.refl _ _).alloc (Nat.le_refl _) _).alloc (by simp) _).alloc (by simp; omega) _) hb4)
  clear hb4 b3
  obtain ⟨la_0, la_1, la_2, la_l⟩ := Fla.out
  have la_m := Nat.lt_succ_of_lt la_l
  try simp only [Nat.succ_eq_add_one, Nat.add_lt_add_iff_right] at la_m
  obtain ⟨hi_0, hi_1, hi_2, hi_l⟩ := Fhi.out
  have hi_m := Nat.lt_succ_of_lt hi_l
  try simp only [Nat.succ_eq_add_one, Nat.add_lt_add_iff_right] at hi_m
  go_wp2_with fail
  refine (L3.out _).mono ?_
  rintro e w5 ⟨rfl, hb5⟩
  have b5 := thenBelow (thenBelow b4 (by first | exact Below.refl _ _ | exact (Below.refl _ _).alloc (Nat.le_refl _) _ | exact ((Below.refl _ _).alloc (Nat.le_refl _) _).alloc (by simp) _ | exact (((Below.refl _ _).alloc (Nat.le_refl _) _).alloc (by simp) _).alloc (by simp; omega) _)) hb5
  clear la_0 la_1 la_2 la_l la_m hi_0 hi_1 hi_2 hi_l hi_m
  have Fp := Lib.hid (Fp.out.via (by first | exact Below.refl _ _ | exact (Below.refl _ _).alloc (Nat.le_refl _) _ | exact ((Below.refl _ _).alloc (Nat.le_refl _) _).alloc (by simp) _ | exact (((Below.refl _ _).alloc (Nat.le_refl _) _).alloc (by simp) _).alloc (by simp; omega) _) hb5)
  have Ffi := Lib.hid (Ffi.out.via (by first | exact Below.refl _ _ | exact (Below.refl _ _).alloc (Nat.le_refl _) _ | exact ((Below.refl _ _).alloc (Nat.le_refl _) _).alloc (by simp) _ | exact (((Below.refl _ _).alloc (Nat.le_refl _) _).alloc (by simp) _).alloc (by simp; omega) _) hb5)
  have Fla := Lib.hid (Fla.out.via (by first | exact Below.refl _ _ | exact (Below.refl _ _).alloc (Nat.le_refl _) _ | exact ((Below.refl _ _).alloc (Nat.le_refl _) _).alloc (by simp) _ | exact (((Below.refl _ _).alloc (Nat.le_refl _) _).alloc (by simp) _).alloc (by simp; omega) _) hb5)
  have Flo := Lib.hid (Flo.out.via (by first | exact Below.refl _ _ | exact (Below.refl _ _).alloc (Nat.le_refl _) _ | exact ((Below.refl _ _).alloc (Nat.le_refl _) _).alloc (by simp) _ | exact (((Below.refl _ _).alloc (Nat.le_refl _) _).alloc (by simp) _).alloc (by simp; omega) _) hb5)
  have Fhi := Lib.hid (Fhi.out.via (by first | exact Below.refl _ _ | exact (Below.refl _ _).alloc (Nat.le_refl _) _ | exact ((Below.refl _ _).alloc (Nat.le_refl _) _).alloc (by simp) _ | exact (((Below.refl _ _).alloc (Nat.le_refl _) _).alloc (by simp) _).alloc (by simp; omega) _) hb5)
  clear hb5 b4
  obtain ⟨p_0, p_1, p_2, p_3, p_l⟩ := Fp.out
  have p_m := Nat.lt_succ_of_lt p_l
  try simp only [Nat.succ_eq_add_one, Nat.add_lt_add_iff_right] at p_m
  go_wp2
  go_returns
  exact ⟨_, rfl, owned_one _ _ b5.size _ _ _, (thenBelow b5 (by first | exact Below.refl _ _ | exact (Below.refl _ _).alloc (Nat.le_refl _) _ | exact ((Below.refl _ _).alloc (Nat.le_refl _) _).alloc (by simp) _ | exact (((Below.refl _ _).alloc (Nat.le_refl _) _).alloc (by simp) _).alloc (by simp; omega) _))⟩
set_option maxHeartbeats 1000000 in
theorem rw_split1 (six : Bool) (x k a b : Nat) (hA : AL six x (k + 1)) (h0 : ¬ x + (2 ^ (k + 1) - 1) < a) (h1 : ¬ b < x) (h2 : x < a) (l1 l2 : List PT) (hlen : l1.length + l2.length ≤ 1000000000)
    (K1 : Hid (∀ W : World, Calls Tryd.prog 35 #[.agg #[.bool six, .int .u64 (aH x), .int .u64 (aL x), .int .i64 ((wideN six - k : Nat) : Int)], .agg #[.bool six, .int .u64 (aH a), .int .u64 (aL a)], .agg #[.bool six, .int .u64 (aH b), .int .u64 (aL b)]] W (PresOut l1 W)))
    (K2 : Hid (∀ W : World, Calls Tryd.prog 35 #[.agg #[.bool six, .int .u64 (aH (x + 2 ^ k)), .int .u64 (aL (x + 2 ^ k)), .int .i64 ((wideN six - k : Nat) : Int)], .agg #[.bool six, .int .u64 (aH a), .int .u64 (aL a)], .agg #[.bool six, .int .u64 (aH b), .int .u64 (aL b)]] W (PresOut l2 W))) (w : World) :
    Calls Tryd.prog 35 #[.agg #[.bool six, .int .u64 (aH x), .int .u64 (aL x), .int .i64 ((wideN six - (k + 1) : Nat) : Int)], .agg #[.bool six, .int .u64 (aH a), .int .u64 (aL a)], .agg #[.bool six, .int .u64 (aH b), .int .u64 (aL b)]] w (PresOut (l1 ++ l2) w) := by
  have L0 := Lib.hid (less_is six six (x + (2 ^ (k + 1) - 1)) a false (decide_eq_false h0))
  have L1 := Lib.hid (less_is six six b x false (decide_eq_false h1))
  have L2 := Lib.hid (less_is six six x a true (decide_eq_true h2))
  have HH := Lib.hid (halves_al hA)
  obtain ⟨i0, hii, hz0, hz1, hz2⟩ := info_parts info_pre
  go_enter Tryd.func35, Tryd.ntmps35
  go_wp2_with fail
  refine (span_al hA _).mono ?_
  rintro e w1 ⟨rfl, hb1⟩
  have b1 := thenBelow (show Below w.heap.size w _ from (by first | exact Below.refl _ _ | exact (Below.refl _ _).alloc (Nat.le_refl _) _ | exact ((Below.refl _ _).alloc (Nat.le_refl _) _).alloc (by simp) _ | exact (((Below.refl _ _).alloc (Nat.le_refl _) _).alloc (by simp) _).alloc (by simp; omega) _)) hb1
  have Gp := (PreAt.new (w) six (aH x) (aL x) ((wideN six - (k + 1) : Nat) : Int) 44).via (by first | exact Below.refl _ _ | exact (Below.refl _ _).alloc (Nat.le_refl _) _ | exact ((Below.refl _ _).alloc (Nat.le_refl _) _).alloc (by simp) _ | exact (((Below.refl _ _).alloc (Nat.le_refl _) _).alloc (by simp) _).alloc (by simp; omega) _) hb1
  try simp only [World.size_alloc] at Gp
  have Fp := Lib.hid Gp
  clear Gp
  have Gfi := (AddrAt.new ((w.alloc (.cells #[.bool six, .int .u64 (aH x), .int .u64 (aL x), .int .i64 ((wideN six - (k + 1) : Nat) : Int)] 44))) six (aH a) (aL a) 24).via (by first | exact Below.refl _ _ | exact (Below.refl _ _).alloc (Nat.le_refl _) _ | exact ((Below.refl _ _).alloc (Nat.le_refl _) _).alloc (by simp) _ | exact (((Below.refl _ _).alloc (Nat.le_refl _) _).alloc (by simp) _).alloc (by simp; omega) _) hb1
  try simp only [World.size_alloc] at Gfi
  have Ffi := Lib.hid Gfi
  clear Gfi
  have Gla := (AddrAt.new (((w.alloc (.cells #[.bool six, .int .u64 (aH x), .int .u64 (aL x), .int .i64 ((wideN six - (k + 1) : Nat) : Int)] 44)).alloc (.cells #[.bool six, .int .u64 (aH a), .int .u64 (aL a)] 24))) six (aH b) (aL b) 24).via (by first | exact Below.refl _ _ | exact (Below.refl _ _).alloc (Nat.le_refl _) _ | exact ((Below.refl _ _).alloc (Nat.le_refl _) _).alloc (by simp) _ | exact (((Below.refl _ _).alloc (Nat.le_refl _) _).alloc (by simp) _).alloc (by simp; omega) _) hb1
  try simp only [World.size_alloc] at Gla
  have Fla := Lib.hid Gla
  clear Gla
  clear hb1
  obtain ⟨fi_0, fi_1, fi_2, fi_l⟩ := Ffi.out
  have fi_m := Nat.lt_succ_of_lt fi_l
  try simp only [Nat.succ_eq_add_one, Nat.add_lt_add_iff_right] at fi_m
  go_wp2_with fail
  refine (L0.out _).mono ?_
  rintro e w2 ⟨rfl, hb2⟩
  have b2 := thenBelow (thenBelow b1 (by first | exact Below.refl _ _ | exact (Below.refl _ _).alloc (Nat.le_refl _) _ | exact ((Below.refl _ _).alloc (Nat.le_refl _) _).alloc (by simp) _ | exact (((Below.refl _ _).alloc (Nat.le_refl _) _).alloc (by simp) _).alloc (by simp; omega) _)) hb2
  clear fi_0 fi_1 fi_2 fi_l fi_m
  have Fp := Lib.hid (Fp.out.via (by first | exact Below.refl _ _ | exact (Below.refl _ _).alloc (Nat.le_refl _) _ | exact ((Below.refl _ _).alloc (Nat.le_refl _) _).alloc (by simp) _ | exact (((Below.refl _ _).alloc (Nat.le_refl _) _).alloc (by simp) _).alloc (by simp; omega) _) hb2)
  have Ffi := Lib.hid (Ffi.out.via (by first | exact Below.refl _ _ | exact (Below.refl _ _).alloc (Nat.le_refl _) _ | exact ((Below.refl _ _).alloc (Nat.le_refl _) _).alloc (by simp) _ | exact (((Below.refl _ _).alloc (Nat.le_refl _) _).alloc (by simp) _).alloc (by simp; omega) _) hb2)
  have Fla := Lib.hid (Fla.out.via (by first | exact Below.refl _ _ | exact (Below.refl _ _).alloc (Nat.le_refl _) _ | exact ((Below.refl _ _).alloc (Nat.le_refl _) _).alloc (by simp) _ | exact (((Below.refl _ _).alloc (Nat.le_refl _) _).alloc (by simp) _).alloc (by simp; omega) _) hb2)
  have Glo := (AddrAt.new (w1) six (aH x) (aL x) 24).via (by first | exact Below.refl _ _ | exact (Below.refl _ _).alloc (Nat.le_refl _) _ | exact ((Below.refl _ _).alloc (Nat.le_refl _) _).alloc (by simp) _ | exact (((Below.refl _ _).alloc (Nat.le_refl _) _).alloc (by simp) _).alloc (by simp; omega) _) hb2
  try simp only [World.size_alloc] at Glo
  have Flo := Lib.hid Glo
  clear Glo
  have Ghi := (AddrAt.new ((w1.alloc (.cells #[.bool six, .int .u64 (aH x), .int .u64 (aL x)] 24))) six (aH (x + (2 ^ (k + 1) - 1))) (aL (x + (2 ^ (k + 1) - 1))) 24).via (by first | exact Below.refl _ _ | exact (Below.refl _ _).alloc (Nat.le_refl _) _ | exact ((Below.refl _ _).alloc (Nat.le_refl _) _).alloc (by simp) _ | exact (((Below.refl _ _).alloc (Nat.le_refl _) _).alloc (by simp) _).alloc (by simp; omega) _) hb2
  try simp only [World.size_alloc] at Ghi
  have Fhi := Lib.hid Ghi
  clear Ghi
  clear hb2 b1
  obtain ⟨la_0, la_1, la_2, la_l⟩ := Fla.out
  have la_m := Nat.lt_succ_of_lt la_l
  try simp only [Nat.succ_eq_add_one, Nat.add_lt_add_iff_right] at la_m
  obtain ⟨lo_0, lo_1, lo_2, lo_l⟩ := Flo.out
  have lo_m := Nat.lt_succ_of_lt lo_l
  try simp only [Nat.succ_eq_add_one, Nat.add_lt_add_iff_right] at lo_m
  go_wp2_with fail
  refine (L1.out _).mono ?_
  rintro e w3 ⟨rfl, hb3⟩
  have b3 := thenBelow (thenBelow b2 (by first | exact Below.refl _ _ | exact (Below.refl _ _).alloc (Nat.le_refl _) _ | exact ((Below.refl _ _).alloc (Nat.le_refl _) _).alloc (by simp) _ | exact (((Below.refl _ _).alloc (Nat.le_refl _) _).alloc (by simp) _).alloc (by simp; omega) _)) hb3
  clear la_0 la_1 la_2 la_l la_m lo_0 lo_1 lo_2 lo_l lo_m
  have Fp := Lib.hid (Fp.out.via (by first | exact Below.refl _ _ | exact (Below.refl _ _).alloc (Nat.le_refl _) _ | exact ((Below.refl _ _).alloc (Nat.le_refl _) _).alloc (by simp) _ | exact (((Below.refl _ _).alloc (Nat.le_refl _) _).alloc (by simp) _).alloc (by simp; omega) _) hb3)
  have Ffi := Lib.hid (Ffi.out.via (by first | exact Below.refl _ _ | exact (Below.refl _ _).alloc (Nat.le_refl _) _ | exact ((Below.refl _ _).alloc (Nat.le_refl _) _).alloc (by simp) _ | exact (((Below.refl _ _).alloc (Nat.le_refl _) _).alloc (by simp) _).alloc (by simp; omega) _) hb3)
  have Fla := Lib.hid (Fla.out.via (by first | exact Below.refl _ _ | exact (Below.refl _ _).alloc (Nat.le_refl _) _ | exact ((Below.refl _ _).alloc (Nat.le_refl _) _).alloc (by simp) _ | exact (((Below.refl _ _).alloc (Nat.le_refl _) _).alloc (by simp) _).alloc (by simp; omega) _) hb3)
  have Flo := Lib.hid (Flo.out.via (by first | exact Below.refl _ _ | exact (Below.refl _ _).alloc (Nat.le_refl _) _ | exact ((Below.refl _ _).alloc (Nat.le_refl _) _).alloc (by simp) _ | exact (((Below.refl _ _).alloc (Nat.le_refl _) _).alloc (by simp) _).alloc (by simp; omega) _) hb3)
  have Fhi := Lib.hid (Fhi.out.via (by first | exact Below.refl _ _ | exact (Below.refl _ _).alloc (Nat.le_refl _) _ | exact ((Below.refl _ _).alloc (Nat.le_refl _) _).alloc (by simp) _ | exact (((Below.refl _ _).alloc (Nat.le_refl _) _).alloc (by simp) _).alloc (by simp; omega) _) hb3)
  clear hb3 b2
  obtain ⟨lo_0, lo_1, lo_2, lo_l⟩ := Flo.out
  have lo_m := Nat.lt_succ_of_lt lo_l
  try simp only [Nat.succ_eq_add_one, Nat.add_lt_add_iff_right] at lo_m
  obtain ⟨fi_0, fi_1, fi_2, fi_l⟩ := Ffi.out
  have fi_m := Nat.lt_succ_of_lt fi_l
  try simp only [Nat.succ_eq_add_one, Nat.add_lt_add_iff_right] at fi_m
  go_wp2_with fail
  refine (L2.out _).mono ?_
  rintro e w4 ⟨rfl, hb4⟩
  have b4 := thenBelow (thenBelow b3 (by first | exact Below.refl _ _ | exact (Below.refl _ _).alloc (Nat.le_refl _) _ | exact ((Below.refl _ _).alloc (Nat.le_refl _) _).alloc (by simp) _ | exact (((Below.refl _ _).alloc (Nat.le_refl _) _).alloc (by simp) _).alloc (by simp; omega) _)) hb4
  clear lo_0 lo_1 lo_2 lo_l lo_m fi_0 fi_1 fi_2 fi_l fi_m
  have Fp := Lib.hid (Fp.out.via (by first | exact Below.refl _ _ | exact (Below.refl _ _).alloc (Nat.le_refl _) _ | exact ((Below.refl _ _).alloc (Nat.le_refl _) _).alloc (by simp) _ | exact (((Below.refl _ _).alloc (Nat.le_refl _) _).alloc (by simp) _).alloc (by simp; omega) _) hb4)
  have Ffi := Lib.hid (Ffi.out.via (by first | exact Below.refl _ _ | exact (Below.refl _ _).alloc (Nat.le_refl _) _ | exact ((Below.refl _ _).alloc (Nat.le_refl _) _).alloc (by simp) _ | exact (((Below.refl _ _).alloc (Nat.le_refl _) _).alloc (by simp) _).alloc (by simp; omega) _) hb4)
  have Fla := Lib.hid (Fla.out.via (by first | exact Below.refl _ _ | exact (Below.refl _ _).alloc (Nat.le_refl _) _ | exact ((Below.refl _ _).alloc (Nat.le_refl _) _).alloc (by simp) _ | exact (((Below.refl _ _).alloc (Nat.le_refl _) _).alloc (by simp) _).alloc (by simp; omega) _) hb4)
  have Flo := Lib.hid (Flo.out.via (by first | exact Below.refl _ _ | exact (Below.refl _ _).alloc (Nat.le_refl _) _ | exact ((Below.refl _ _).alloc (Nat.le_refl _) _).alloc (by simp) _ | exact (((Below.refl _ _).alloc (Nat.le_refl _) _).alloc (by simp) _).alloc (by simp; omega) _) hb4)
  have Fhi := Lib.hid (Fhi.out.via (by first | exact Below.refl _ _ | exact (Below.refl _ _).alloc (Nat.le_refl _) _ | exact ((Below.refl _ _).alloc (Nat.le_refl _) _).alloc (by simp) _ | exact (((Below.refl _ _).alloc (Nat.le_refl _) _).alloc (by simp) _).alloc (by simp; omega) _) hb4)
  clear hb4 b3
  obtain ⟨p_0, p_1, p_2, p_3, p_l⟩ := Fp.out
  have p_m := Nat.lt_succ_of_lt p_l
  try simp only [Nat.succ_eq_add_one, Nat.add_lt_add_iff_right] at p_m
  go_wp2_with fail
  refine (HH.out _).mono ?_
  rintro e w5 ⟨rfl, hb5⟩
  have b5 := thenBelow (thenBelow b4 (by first | exact Below.refl _ _ | exact (Below.refl _ _).alloc (Nat.le_refl _) _ | exact ((Below.refl _ _).alloc (Nat.le_refl _) _).alloc (by simp) _ | exact (((Below.refl _ _).alloc (Nat.le_refl _) _).alloc (by simp) _).alloc (by simp; omega) _)) hb5
  clear p_0 p_1 p_2 p_3 p_l p_m
  clear Fp
  have Ffi := Lib.hid (Ffi.out.via (by first | exact Below.refl _ _ | exact (Below.refl _ _).alloc (Nat.le_refl _) _ | exact ((Below.refl _ _).alloc (Nat.le_refl _) _).alloc (by simp) _ | exact (((Below.refl _ _).alloc (Nat.le_refl _) _).alloc (by simp) _).alloc (by simp; omega) _) hb5)
  have Fla := Lib.hid (Fla.out.via (by first | exact Below.refl _ _ | exact (Below.refl _ _).alloc (Nat.le_refl _) _ | exact ((Below.refl _ _).alloc (Nat.le_refl _) _).alloc (by simp) _ | exact (((Below.refl _ _).alloc (Nat.le_refl _) _).alloc (by simp) _).alloc (by simp; omega) _) hb5)
  clear Flo
  clear Fhi
  clear hb5 b4
  go_wp2_with fail
  have GL := (PreAt.new w5 six (aH x) (aL x) ((wideN six - k : Nat) : Int) 44).alloc (.cells #[.bool six, .int .u64 (aH (x + 2 ^ k)), .int .u64 (aL (x + 2 ^ k)), .int .i64 ((wideN six - k : Nat) : Int)] 44)
  have GU := PreAt.new (w5.alloc (.cells #[.bool six, .int .u64 (aH x), .int .u64 (aL x), .int .i64 ((wideN six - k : Nat) : Int)] 44)) six (aH (x + 2 ^ k)) (aL (x + 2 ^ k)) ((wideN six - k : Nat) : Int) 44
  have GF := (Ffi.out.alloc (.cells #[.bool six, .int .u64 (aH x), .int .u64 (aL x), .int .i64 ((wideN six - k : Nat) : Int)] 44)).alloc (.cells #[.bool six, .int .u64 (aH (x + 2 ^ k)), .int .u64 (aL (x + 2 ^ k)), .int .i64 ((wideN six - k : Nat) : Int)] 44)
  have GA := (Fla.out.alloc (.cells #[.bool six, .int .u64 (aH x), .int .u64 (aL x), .int .i64 ((wideN six - k : Nat) : Int)] 44)).alloc (.cells #[.bool six, .int .u64 (aH (x + 2 ^ k)), .int .u64 (aL (x + 2 ^ k)), .int .i64 ((wideN six - k : Nat) : Int)] 44)
  have GB := thenBelow b5 (((Below.refl _ w5).alloc (Nat.le_refl _) (.cells #[.bool six, .int .u64 (aH x), .int .u64 (aL x), .int .i64 ((wideN six - k : Nat) : Int)] 44)).alloc (by simp) (.cells #[.bool six, .int .u64 (aH (x + 2 ^ k)), .int .u64 (aL (x + 2 ^ k)), .int .i64 ((wideN six - k : Nat) : Int)] 44))
  rw [World.size_alloc] at GU
  clear Ffi Fla b5
  revert GL GU GF GA GB
  generalize ((w5.alloc (.cells #[.bool six, .int .u64 (aH x), .int .u64 (aL x), .int .i64 ((wideN six - k : Nat) : Int)] 44)).alloc (.cells #[.bool six, .int .u64 (aH (x + 2 ^ k)), .int .u64 (aL (x + 2 ^ k)), .int .i64 ((wideN six - k : Nat) : Int)] 44)) = W
  intro GL GU GF GA GB
  have FL := Lib.hid GL
  have FU := Lib.hid GU
  have FF := Lib.hid GF
  have FA := Lib.hid GA
  have hWs := GB.size
  have hWd : w.heap.size ≤ W.drew.heap.size := hWs
  have hby : (l1.length + l2.length) * 32 ≤ 140737488355328 := by omega
  have h63 : l1.length + l2.length ≤ maxLen := by unfold maxLen; omega
  obtain ⟨l0, l1', l2', l3, _⟩ := GL
  obtain ⟨u0, u1, u2, u3, _⟩ := GU
  obtain ⟨f0, f1, f2, _⟩ := GF
  obtain ⟨a0, a1, a2, _⟩ := GA
  go_region_held3 (fun w' => w'.cell? ⟨w5.heap.size, 0, none⟩ = some (.bool six) ∧ w'.cell? ⟨w5.heap.size, 1, none⟩ = some (.int .u64 (aH x)) ∧ w'.cell? ⟨w5.heap.size, 2, none⟩ = some (.int .u64 (aL x)) ∧ w'.cell? ⟨w5.heap.size, 3, none⟩ = some (.int .i64 ((wideN six - k : Nat) : Int)) ∧ w'.cell? ⟨w5.heap.size + 1, 0, none⟩ = some (.bool six) ∧ w'.cell? ⟨w5.heap.size + 1, 1, none⟩ = some (.int .u64 (aH (x + 2 ^ k))) ∧ w'.cell? ⟨w5.heap.size + 1, 2, none⟩ = some (.int .u64 (aL (x + 2 ^ k))) ∧ w'.cell? ⟨w5.heap.size + 1, 3, none⟩ = some (.int .i64 ((wideN six - k : Nat) : Int)) ∧ w'.cell? ⟨w.heap.size + 1, 0, none⟩ = some (.bool six) ∧ w'.cell? ⟨w.heap.size + 1, 1, none⟩ = some (.int .u64 (aH a)) ∧ w'.cell? ⟨w.heap.size + 1, 2, none⟩ = some (.int .u64 (aL a)) ∧ w'.cell? ⟨w.heap.size + 1 + 1, 0, none⟩ = some (.bool six) ∧ w'.cell? ⟨w.heap.size + 1 + 1, 1, none⟩ = some (.int .u64 (aH b)) ∧ w'.cell? ⟨w.heap.size + 1 + 1, 2, none⟩ = some (.int .u64 (aL b)))
    (first
      | (simp [go_sem, l0, l1', l2', l3, u0, u1, u2, u3, f0, f1, f2, a0, a1, a2]; done)
      | (simp [go_sem, xl0, xl1, xl2, xl3, xu0, xu1, xu2, xu3, xf0, xf1, xf2, xa0, xa1, xa2]; done)
      | (simp [go_sem, yl0, yl1, yl2, yl3, yu0, yu1, yu2, yu3, yf0, yf1, yf2, ya0, ya1, ya2]; done)
      | (simp [go_sem, zl0, zl1, zl2, zl3, zu0, zu1, zu2, zu3, zf0, zf1, zf2, za0, za1, za2]; done)
      | fail)
    (first
      | (go_at_call 35; with_reducible refine (K1.out _).mono ?_; rintro e wa ⟨va, rfl, oa, ba⟩; obtain ⟨xl0, xl1, xl2, xl3, _⟩ := preCells (FL.out.via (Below.refl _ _).drew ba); obtain ⟨xu0, xu1, xu2, xu3, _⟩ := preCells (FU.out.via (Below.refl _ _).drew ba); obtain ⟨xf0, xf1, xf2, _⟩ := addrCells (FF.out.via (Below.refl _ _).drew ba); obtain ⟨xa0, xa1, xa2, _⟩ := addrCells (FA.out.via (Below.refl _ _).drew ba))
      | (go_at_call 35; with_reducible refine (K2.out _).mono ?_; rintro e wb ⟨vb, rfl, ob, bb⟩; obtain ⟨yl0, yl1, yl2, yl3, _⟩ := preCells ((FL.out.via (Below.refl _ _).drew ba).keep bb); obtain ⟨yu0, yu1, yu2, yu3, _⟩ := preCells ((FU.out.via (Below.refl _ _).drew ba).keep bb); obtain ⟨yf0, yf1, yf2, _⟩ := addrCells ((FF.out.via (Below.refl _ _).drew ba).keep bb); obtain ⟨ya0, ya1, ya2, _⟩ := addrCells ((FA.out.via (Below.refl _ _).drew ba).keep bb); have oa2 := ownsKeep oa bb)
      | (refine step_append_two (by rfl) _ _ _ (by rfl) W.drew.heap.size 44 i0 _ 4 32 Tryd.underlying25 hii hz0 hz1 hz2 rfl (by decide) _ _ _ (by rfl) oa2 _ _ _ _ (by rfl) ob (pRow_one _) hby h63 (Nat.le_trans ba.size bb.size) ?_; intro v3 w3 h3 b3; have b4 := (thenBelow ba bb).trans b3; obtain ⟨zl0, zl1, zl2, zl3, _⟩ := preCells (FL.out.via (Below.refl _ _).drew b4); obtain ⟨zu0, zu1, zu2, zu3, _⟩ := preCells (FU.out.via (Below.refl _ _).drew b4); obtain ⟨zf0, zf1, zf2, _⟩ := addrCells (FF.out.via (Below.refl _ _).drew b4); obtain ⟨za0, za1, za2, _⟩ := addrCells (FA.out.via (Below.refl _ _).drew b4))
      | fail)
  go_wp2
  go_returns
  refine ⟨_, rfl, ?_, thenBelow GB.drew b4⟩
  unfold Owned
  rw [List.length_append, pRow_app]
  exact ownsLow h3 hWd
set_option maxHeartbeats 1000000 in
theorem rw_split2 (six : Bool) (x k a b : Nat) (hA : AL six x (k + 1)) (h0 : ¬ x + (2 ^ (k + 1) - 1) < a) (h1 : ¬ b < x) (h2 : ¬ x < a) (h3 : b < x + (2 ^ (k + 1) - 1)) (l1 l2 : List PT) (hlen : l1.length + l2.length ≤ 1000000000)
    (K1 : Hid (∀ W : World, Calls Tryd.prog 35 #[.agg #[.bool six, .int .u64 (aH x), .int .u64 (aL x), .int .i64 ((wideN six - k : Nat) : Int)], .agg #[.bool six, .int .u64 (aH a), .int .u64 (aL a)], .agg #[.bool six, .int .u64 (aH b), .int .u64 (aL b)]] W (PresOut l1 W)))
    (K2 : Hid (∀ W : World, Calls Tryd.prog 35 #[.agg #[.bool six, .int .u64 (aH (x + 2 ^ k)), .int .u64 (aL (x + 2 ^ k)), .int .i64 ((wideN six - k : Nat) : Int)], .agg #[.bool six, .int .u64 (aH a), .int .u64 (aL a)], .agg #[.bool six, .int .u64 (aH b), .int .u64 (aL b)]] W (PresOut l2 W))) (w : World) :
    Calls Tryd.prog 35 #[.agg #[.bool six, .int .u64 (aH x), .int .u64 (aL x), .int .i64 ((wideN six - (k + 1) : Nat) : Int)], .agg #[.bool six, .int .u64 (aH a), .int .u64 (aL a)], .agg #[.bool six, .int .u64 (aH b), .int .u64 (aL b)]] w (PresOut (l1 ++ l2) w) := by
  have L0 := Lib.hid (less_is six six (x + (2 ^ (k + 1) - 1)) a false (decide_eq_false h0))
  have L1 := Lib.hid (less_is six six b x false (decide_eq_false h1))
  have L2 := Lib.hid (less_is six six x a false (decide_eq_false h2))
  have L3 := Lib.hid (less_is six six b (x + (2 ^ (k + 1) - 1)) true (decide_eq_true h3))
  have HH := Lib.hid (halves_al hA)
  obtain ⟨i0, hii, hz0, hz1, hz2⟩ := info_parts info_pre
  go_enter Tryd.func35, Tryd.ntmps35
  go_wp2_with fail
  refine (span_al hA _).mono ?_
  rintro e w1 ⟨rfl, hb1⟩
  have b1 := thenBelow (show Below w.heap.size w _ from (by first | exact Below.refl _ _ | exact (Below.refl _ _).alloc (Nat.le_refl _) _ | exact ((Below.refl _ _).alloc (Nat.le_refl _) _).alloc (by simp) _ | exact (((Below.refl _ _).alloc (Nat.le_refl _) _).alloc (by simp) _).alloc (by simp; omega) _)) hb1
  have Gp := (PreAt.new (w) six (aH x) (aL x) ((wideN six - (k + 1) : Nat) : Int) 44).via (by first | exact Below.refl _ _ | exact (Below.refl _ _).alloc (Nat.le_refl _) _ | exact ((Below.refl _ _).alloc (Nat.le_refl _) _).alloc (by simp) _ | exact (((Below.refl _ _).alloc (Nat.le_refl _) _).alloc (by simp) _).alloc (by simp; omega) _) hb1
  try simp only [World.size_alloc] at Gp
  have Fp := Lib.hid Gp
  clear Gp
  have Gfi := (AddrAt.new ((w.alloc (.cells #[.bool six, .int .u64 (aH x), .int .u64 (aL x), .int .i64 ((wideN six - (k + 1) : Nat) : Int)] 44))) six (aH a) (aL a) 24).via (by first | exact Below.refl _ _ | exact (Below.refl _ _).alloc (Nat.le_refl _) _ | exact ((Below.refl _ _).alloc (Nat.le_refl _) _).alloc (by simp) _ | exact (((Below.refl _ _).alloc (Nat.le_refl _) _).alloc (by simp) _).alloc (by simp; omega) _) hb1
  try simp only [World.size_alloc] at Gfi
  have Ffi := Lib.hid Gfi
  clear Gfi
  have Gla := (AddrAt.new (((w.alloc (.cells #[.bool six, .int .u64 (aH x), .int .u64 (aL x), .int .i64 ((wideN six - (k + 1) : Nat) : Int)] 44)).alloc (.cells #[.bool six, .int .u64 (aH a), .int .u64 (aL a)] 24))) six (aH b) (aL b) 24).via (by first | exact Below.refl _ _ | exact (Below.refl _ _).alloc (Nat.le_refl _) _ | exact ((Below.refl _ _).alloc (Nat.le_refl _) _).alloc (by simp) _ | exact (((Below.refl _ _).alloc (Nat.le_refl _) _).alloc (by simp) _).alloc (by simp; omega) _) hb1
  try simp only [World.size_alloc] at Gla
  have Fla := Lib.hid Gla
  clear Gla
  clear hb1
  obtain ⟨fi_0, fi_1, fi_2, fi_l⟩ := Ffi.out
  have fi_m := Nat.lt_succ_of_lt fi_l
  try simp only [Nat.succ_eq_add_one, Nat.add_lt_add_iff_right] at fi_m
  go_wp2_with fail
  refine (L0.out _).mono ?_
  rintro e w2 ⟨rfl, hb2⟩
  have b2 := thenBelow (thenBelow b1 (by first | exact Below.refl _ _ | exact (Below.refl _ _).alloc (Nat.le_refl _) _ | exact ((Below.refl _ _).alloc (Nat.le_refl _) _).alloc (by simp) _ | exact (((Below.refl _ _).alloc (Nat.le_refl _) _).alloc (by simp) _).alloc (by simp; omega) _)) hb2
  clear fi_0 fi_1 fi_2 fi_l fi_m
  have Fp := Lib.hid (Fp.out.via (by first | exact Below.refl _ _ | exact (Below.refl _ _).alloc (Nat.le_refl _) _ | exact ((Below.refl _ _).alloc (Nat.le_refl _) _).alloc (by simp) _ | exact (((Below.refl _ _).alloc (Nat.le_refl _) _).alloc (by simp) _).alloc (by simp; omega) _) hb2)
  have Ffi := Lib.hid (Ffi.out.via (by first | exact Below.refl _ _ | exact (Below.refl _ _).alloc (Nat.le_refl _) _ | exact ((Below.refl _ _).alloc (Nat.le_refl _) _).alloc (by simp) _ | exact (((Below.refl _ _).alloc (Nat.le_refl _) _).alloc (by simp) _).alloc (by simp; omega) _) hb2)
  have Fla := Lib.hid (Fla.out.via (by first | exact Below.refl _ _ | exact (Below.refl _ _).alloc (Nat.le_refl _) _ | exact ((Below.refl _ _).alloc (Nat.le_refl _) _).alloc (by simp) _ | exact (((Below.refl _ _).alloc (Nat.le_refl _) _).alloc (by simp) _).alloc (by simp; omega) _) hb2)
  have Glo := (AddrAt.new (w1) six (aH x) (aL x) 24).via (by first | exact Below.refl _ _ | exact (Below.refl _ _).alloc (Nat.le_refl _) _ | exact ((Below.refl _ _).alloc (Nat.le_refl _) _).alloc (by simp) _ | exact (((Below.refl _ _).alloc (Nat.le_refl _) _).alloc (by simp) _).alloc (by simp; omega) _) hb2
  try simp only [World.size_alloc] at Glo
  have Flo := Lib.hid Glo
  clear Glo
  have Ghi := (AddrAt.new ((w1.alloc (.cells #[.bool six, .int .u64 (aH x), .int .u64 (aL x)] 24))) six (aH (x + (2 ^ (k + 1) - 1))) (aL (x + (2 ^ (k + 1) - 1))) 24).via (by first | exact Below.refl _ _ | exact (Below.refl _ _).alloc (Nat.le_refl _) _ | exact ((Below.refl _ _).alloc (Nat.le_refl _) _).alloc (by simp) _ | exact (((Below.refl _ _).alloc (Nat.le_refl _) _).alloc (by simp) _).alloc (by simp; omega) _) hb2
  try simp only [World.size_alloc] at Ghi
  have Fhi := Lib.hid Ghi
  clear Ghi
  clear hb2 b1
  obtain ⟨la_0, la_1, la_2, la_l⟩ := Fla.out
  have la_m := Nat.lt_succ_of_lt la_l
  try simp only [Nat.succ_eq_add_one, Nat.add_lt_add_iff_right] at la_m
  obtain ⟨lo_0, lo_1, lo_2, lo_l⟩ := Flo.out
  have lo_m := Nat.lt_succ_of_lt lo_l
  try simp only [Nat.succ_eq_add_one, Nat.add_lt_add_iff_right] at lo_m
  go_wp2_with fail
  refine (L1.out _).mono ?_
  rintro e w3 ⟨rfl, hb3⟩
  have b3 := thenBelow (thenBelow b2 (by first | exact Below.refl _ _ | exact (Below.refl _ _).alloc (Nat.le_refl _) _ | exact ((Below.refl _ _).alloc (Nat.le_refl _) _).alloc (by simp) _ | exact (((Below.refl _ _).alloc (Nat.le_refl _) _).alloc (by simp) _).alloc (by simp; omega) _)) hb3
  clear la_0 la_1 la_2 la_l la_m lo_0 lo_1 lo_2 lo_l lo_m
  have Fp := Lib.hid (Fp.out.via (by first | exact Below.refl _ _ | exact (Below.refl _ _).alloc (Nat.le_refl _) _ | exact ((Below.refl _ _).alloc (Nat.le_refl _) _).alloc (by simp) _ | exact (((Below.refl _ _).alloc (Nat.le_refl _) _).alloc (by simp) _).alloc (by simp; omega) _) hb3)
  have Ffi := Lib.hid (Ffi.out.via (by first | exact Below.refl _ _ | exact (Below.refl _ _).alloc (Nat.le_refl _) _ | exact ((Below.refl _ _).alloc (Nat.le_refl _) _).alloc (by simp) _ | exact (((Below.refl _ _).alloc (Nat.le_refl _) _).alloc (by simp) _).alloc (by simp; omega) _) hb3)
  have Fla := Lib.hid (Fla.out.via (by first | exact Below.refl _ _ | exact (Below.refl _ _).alloc (Nat.le_refl _) _ | exact ((Below.refl _ _).alloc (Nat.le_refl _) _).alloc (by simp) _ | exact (((Below.refl _ _).alloc (Nat.le_refl _) _).alloc (by simp) _).alloc (by simp; omega) _) hb3)
  have Flo := Lib.hid (Flo.out.via (by first | exact Below.refl _ _ | exact (Below.refl _ _).alloc (Nat.le_refl _) _ | exact ((Below.refl _ _).alloc (Nat.le_refl _) _).alloc (by simp) _ | exact (((Below.refl _ _).alloc (Nat.le_refl _) _).alloc (by simp) _).alloc (by simp; omega) _) hb3)
  have Fhi := Lib.hid (Fhi.out.via (by first | exact Below.refl _ _ | exact (Below.refl _ _).alloc (Nat.le_refl _) _ | exact ((Below.refl _ _).alloc (Nat.le_refl _) _).alloc (by simp) _ | exact (((Below.refl _ _).alloc (Nat.le_refl _) _).alloc (by simp) _).alloc (by simp; omega) _) hb3)
  clear hb3 b2
  obtain ⟨lo_0, lo_1, lo_2, lo_l⟩ := Flo.out
  have lo_m := Nat.lt_succ_of_lt lo_l
  try simp only [Nat.succ_eq_add_one, Nat.add_lt_add_iff_right] at lo_m
  obtain ⟨fi_0, fi_1, fi_2, fi_l⟩ := Ffi.out
  have fi_m := Nat.lt_succ_of_lt fi_l
  try simp only [Nat.succ_eq_add_one, Nat.add_lt_add_iff_right] at fi_m
  go_wp2_with fail
  refine (L2.out _).mono ?_
  rintro e w4 ⟨rfl, hb4⟩
  have b4 := thenBelow (thenBelow b3 (by first | exact Below.refl _ _ | exact (Below.refl _ _).alloc (Nat.le_refl _) _ | exact ((Below.refl _ _).alloc (Nat.le_refl _) _).alloc (by simp) _ | exact (((Below.refl _ _).alloc (Nat.le_refl _) _).alloc (by simp) _).alloc (by simp; omega) _)) hb4
  clear lo_0 lo_1 lo_2 lo_l lo_m fi_0 fi_1 fi_2 fi_l fi_m
  have Fp := Lib.hid (Fp.out.via (by first | exact Below.refl _ _ | exact (Below.refl _ _).alloc (Nat.le_refl _) _ | exact ((Below.refl _ _).alloc (Nat.le_refl _) _).alloc (by simp) _ | exact (((Below.refl _ _).alloc (Nat.le_refl _) _).alloc (by simp) _).alloc (by simp; omega) _) hb4)
  have Ffi := Lib.hid (Ffi.out.via (by first | exact Below.refl _ _ | exact (Below.refl _ _).alloc (Nat.le_refl _) _ | exact ((Below.refl _ _).alloc (Nat.le_refl _) _).alloc (by simp) _ | exact (((Below.refl _ _).alloc (Nat.le_refl _) _).alloc (by simp) _).alloc (by simp; omega) _) hb4)
  have Fla := Lib.hid (Fla.out.via (by first | exact Below.refl _ _ | exact (Below.refl _ _).alloc (Nat.le_refl _) _ | exact ((Below.refl _ _).alloc (Nat.le_refl _) _).alloc (by simp) _ | exact (((Below.refl _ _).alloc (Nat.le_refl _) _).alloc (by simp) _).alloc (by simp; omega) _) hb4)
  have Flo := Lib.hid (Flo.out.via (by first | exact Below.refl _ _ | exact (Below.refl _ _).alloc (Nat.le_refl _) _ | exact ((Below.refl _ _).alloc (Nat.le_refl _) _).alloc (by simp) _ | exact (((Below.refl _ _).alloc (Nat.le_refl _) _).alloc (by simp) _).alloc (by simp; omega) _) hb4)
  have Fhi := Lib.hid (Fhi.out.via (by first | exact Below.refl _ _ | exact (Below.refl _ _).alloc (Nat.le_refl _) _ | exact ((Below.refl _ _).alloc (Nat.le_refl _) _).alloc (by simp) _ | exact (((Below.refl _ _).alloc (Nat.le_refl _) _).alloc (by simp) _).alloc (by simp; omega) _) hb4)
  clear hb4 b3
  obtain ⟨la_0, la_1, la_2, la_l⟩ := Fla.out
  have la_m := Nat.lt_succ_of_lt la_l
  try simp only [Nat.succ_eq_add_one, Nat.add_lt_add_iff_right] at la_m
  obtain ⟨hi_0, hi_1, hi_2, hi_l⟩ := Fhi.out
  have hi_m := Nat.lt_succ_of_lt hi_l
  try simp only [Nat.succ_eq_add_one, Nat.add_lt_add_iff_right] at hi_m
  go_wp2_with fail
  refine (L3.out _).mono ?_
  rintro e w5 ⟨rfl, hb5⟩
  have b5 := thenBelow (thenBelow b4 (by first | exact Below.refl _ _ | exact (Below.refl _ _).alloc (Nat.le_refl _) _ | exact ((Below.refl _ _).alloc (Nat.le_refl _) _).alloc (by simp) _ | exact (((Below.refl _ _).alloc (Nat.le_refl _) _).alloc (by simp) _).alloc (by simp; omega) _)) hb5
  clear la_0 la_1 la_2 la_l la_m hi_0 hi_1 hi_2 hi_l hi_m
  have Fp := Lib.hid (Fp.out.via (by first | exact Below.refl _ _ | exact (Below.refl _ _).alloc (Nat.le_refl _) _ | exact ((Below.refl _ _).alloc (Nat.le_refl _) _).alloc (by simp) _ | exact (((Below.refl _ _).alloc (Nat.le_refl _) _).alloc (by simp) _).alloc (by simp; omega) _) hb5)
  have Ffi := Lib.hid (Ffi.out.via (by first | exact Below.refl _ _ | exact (Below.refl _ _).alloc (Nat.le_refl _) _ | exact ((Below.refl _ _).alloc (Nat.le_refl _) _).alloc (by simp) _ | exact (((Below.refl _ _).alloc (Nat.le_refl _) _).alloc (by simp) _).alloc (by simp; omega) _) hb5)
  have Fla := Lib.hid (Fla.out.via (by first | exact Below.refl _ _ | exact (Below.refl _ _).alloc (Nat.le_refl _) _ | exact ((Below.refl _ _).alloc (Nat.le_refl _) _).alloc (by simp) _ | exact (((Below.refl _ _).alloc (Nat.le_refl _) _).alloc (by simp) _).alloc (by simp; omega) _) hb5)
  have Flo := Lib.hid (Flo.out.via (by first | exact Below.refl _ _ | exact (Below.refl _ _).alloc (Nat.le_refl _) _ | exact ((Below.refl _ _).alloc (Nat.le_refl _) _).alloc (by simp) _ | exact (((Below.refl _ _).alloc (Nat.le_refl _) _).alloc (by simp) _).alloc (by simp; omega) _) hb5)
  have Fhi := Lib.hid (Fhi.out.via (by first | exact Below.refl _ _ | exact (Below.refl _ _).alloc (Nat.le_refl _) _ | exact ((Below.refl _ _).alloc (Nat.le_refl _) _).alloc (by simp) _ | exact (((Below.refl _ _).alloc (Nat.le_refl _) _).alloc (by simp) _).alloc (by simp; omega) _) hb5)
  clear hb5 b4
  obtain ⟨p_0, p_1, p_2, p_3, p_l⟩ := Fp.out
  have p_m := Nat.lt_succ_of_lt p_l
  try simp only [Nat.succ_eq_add_one, Nat.add_lt_add_iff_right] at p_m
  go_wp2_with fail
  refine (HH.out _).mono ?_
  rintro e w6 ⟨rfl, hb6⟩
  have b6 := thenBelow (thenBelow b5 (by first | exact Below.refl _ _ | exact (Below.refl _ _).alloc (Nat.le_refl _) _ | exact ((Below.refl _ _).alloc (Nat.le_refl _) _).alloc (by simp) _ | exact (((Below.refl _ _).alloc (Nat.le_refl _) _).alloc (by simp) _).alloc (by simp; omega) _)) hb6
  clear p_0 p_1 p_2 p_3 p_l p_m
  clear Fp
  have Ffi := Lib.hid (Ffi.out.via (by first | exact Below.refl _ _ | exact (Below.refl _ _).alloc (Nat.le_refl _) _ | exact ((Below.refl _ _).alloc (Nat.le_refl _) _).alloc (by simp) _ | exact (((Below.refl _ _).alloc (Nat.le_refl _) _).alloc (by simp) _).alloc (by simp; omega) _) hb6)
  have Fla := Lib.hid (Fla.out.via (by first | exact Below.refl _ _ | exact (Below.refl _ _).alloc (Nat.le_refl _) _ | exact ((Below.refl _ _).alloc (Nat.le_refl _) _).alloc (by simp) _ | exact (((Below.refl _ _).alloc (Nat.le_refl _) _).alloc (by simp) _).alloc (by simp; omega) _) hb6)
  clear Flo
  clear Fhi
  clear hb6 b5
  go_wp2_with fail
  have GL := (PreAt.new w6 six (aH x) (aL x) ((wideN six - k : Nat) : Int) 44).alloc (.cells #[.bool six, .int .u64 (aH (x + 2 ^ k)), .int .u64 (aL (x + 2 ^ k)), .int .i64 ((wideN six - k : Nat) : Int)] 44)
  have GU := PreAt.new (w6.alloc (.cells #[.bool six, .int .u64 (aH x), .int .u64 (aL x), .int .i64 ((wideN six - k : Nat) : Int)] 44)) six (aH (x + 2 ^ k)) (aL (x + 2 ^ k)) ((wideN six - k : Nat) : Int) 44
  have GF := (Ffi.out.alloc (.cells #[.bool six, .int .u64 (aH x), .int .u64 (aL x), .int .i64 ((wideN six - k : Nat) : Int)] 44)).alloc (.cells #[.bool six, .int .u64 (aH (x + 2 ^ k)), .int .u64 (aL (x + 2 ^ k)), .int .i64 ((wideN six - k : Nat) : Int)] 44)
  have GA := (Fla.out.alloc (.cells #[.bool six, .int .u64 (aH x), .int .u64 (aL x), .int .i64 ((wideN six - k : Nat) : Int)] 44)).alloc (.cells #[.bool six, .int .u64 (aH (x + 2 ^ k)), .int .u64 (aL (x + 2 ^ k)), .int .i64 ((wideN six - k : Nat) : Int)] 44)
  have GB := thenBelow b6 (((Below.refl _ w6).alloc (Nat.le_refl _) (.cells #[.bool six, .int .u64 (aH x), .int .u64 (aL x), .int .i64 ((wideN six - k : Nat) : Int)] 44)).alloc (by simp) (.cells #[.bool six, .int .u64 (aH (x + 2 ^ k)), .int .u64 (aL (x + 2 ^ k)), .int .i64 ((wideN six - k : Nat) : Int)] 44))
  rw [World.size_alloc] at GU
  clear Ffi Fla b6
  revert GL GU GF GA GB
  generalize ((w6.alloc (.cells #[.bool six, .int .u64 (aH x), .int .u64 (aL x), .int .i64 ((wideN six - k : Nat) : Int)] 44)).alloc (.cells #[.bool six, .int .u64 (aH (x + 2 ^ k)), .int .u64 (aL (x + 2 ^ k)), .int .i64 ((wideN six - k : Nat) : Int)] 44)) = W
  intro GL GU GF GA GB
  have FL := Lib.hid GL
  have FU := Lib.hid GU
  have FF := Lib.hid GF
  have FA := Lib.hid GA
  have hWs := GB.size
  have hWd : w.heap.size ≤ W.drew.heap.size := hWs
  have hby : (l1.length + l2.length) * 32 ≤ 140737488355328 := by omega
  have h63 : l1.length + l2.length ≤ maxLen := by unfold maxLen; omega
  obtain ⟨l0, l1', l2', l3, _⟩ := GL
  obtain ⟨u0, u1, u2, u3, _⟩ := GU
  obtain ⟨f0, f1, f2, _⟩ := GF
  obtain ⟨a0, a1, a2, _⟩ := GA
  go_region_held3 (fun w' => w'.cell? ⟨w6.heap.size, 0, none⟩ = some (.bool six) ∧ w'.cell? ⟨w6.heap.size, 1, none⟩ = some (.int .u64 (aH x)) ∧ w'.cell? ⟨w6.heap.size, 2, none⟩ = some (.int .u64 (aL x)) ∧ w'.cell? ⟨w6.heap.size, 3, none⟩ = some (.int .i64 ((wideN six - k : Nat) : Int)) ∧ w'.cell? ⟨w6.heap.size + 1, 0, none⟩ = some (.bool six) ∧ w'.cell? ⟨w6.heap.size + 1, 1, none⟩ = some (.int .u64 (aH (x + 2 ^ k))) ∧ w'.cell? ⟨w6.heap.size + 1, 2, none⟩ = some (.int .u64 (aL (x + 2 ^ k))) ∧ w'.cell? ⟨w6.heap.size + 1, 3, none⟩ = some (.int .i64 ((wideN six - k : Nat) : Int)) ∧ w'.cell? ⟨w.heap.size + 1, 0, none⟩ = some (.bool six) ∧ w'.cell? ⟨w.heap.size + 1, 1, none⟩ = some (.int .u64 (aH a)) ∧ w'.cell? ⟨w.heap.size + 1, 2, none⟩ = some (.int .u64 (aL a)) ∧ w'.cell? ⟨w.heap.size + 1 + 1, 0, none⟩ = some (.bool six) ∧ w'.cell? ⟨w.heap.size + 1 + 1, 1, none⟩ = some (.int .u64 (aH b)) ∧ w'.cell? ⟨w.heap.size + 1 + 1, 2, none⟩ = some (.int .u64 (aL b)))
    (first
      | (simp [go_sem, l0, l1', l2', l3, u0, u1, u2, u3, f0, f1, f2, a0, a1, a2]; done)
      | (simp [go_sem, xl0, xl1, xl2, xl3, xu0, xu1, xu2, xu3, xf0, xf1, xf2, xa0, xa1, xa2]; done)
      | (simp [go_sem, yl0, yl1, yl2, yl3, yu0, yu1, yu2, yu3, yf0, yf1, yf2, ya0, ya1, ya2]; done)
      | (simp [go_sem, zl0, zl1, zl2, zl3, zu0, zu1, zu2, zu3, zf0, zf1, zf2, za0, za1, za2]; done)
      | fail)
    (first
      | (go_at_call 35; with_reducible refine (K1.out _).mono ?_; rintro e wa ⟨va, rfl, oa, ba⟩; obtain ⟨xl0, xl1, xl2, xl3, _⟩ := preCells (FL.out.via (Below.refl _ _).drew ba); obtain ⟨xu0, xu1, xu2, xu3, _⟩ := preCells (FU.out.via (Below.refl _ _).drew ba); obtain ⟨xf0, xf1, xf2, _⟩ := addrCells (FF.out.via (Below.refl _ _).drew ba); obtain ⟨xa0, xa1, xa2, _⟩ := addrCells (FA.out.via (Below.refl _ _).drew ba))
      | (go_at_call 35; with_reducible refine (K2.out _).mono ?_; rintro e wb ⟨vb, rfl, ob, bb⟩; obtain ⟨yl0, yl1, yl2, yl3, _⟩ := preCells ((FL.out.via (Below.refl _ _).drew ba).keep bb); obtain ⟨yu0, yu1, yu2, yu3, _⟩ := preCells ((FU.out.via (Below.refl _ _).drew ba).keep bb); obtain ⟨yf0, yf1, yf2, _⟩ := addrCells ((FF.out.via (Below.refl _ _).drew ba).keep bb); obtain ⟨ya0, ya1, ya2, _⟩ := addrCells ((FA.out.via (Below.refl _ _).drew ba).keep bb); have oa2 := ownsKeep oa bb)
      | (refine step_append_two (by rfl) _ _ _ (by rfl) W.drew.heap.size 44 i0 _ 4 32 Tryd.underlying25 hii hz0 hz1 hz2 rfl (by decide) _ _ _ (by rfl) oa2 _ _ _ _ (by rfl) ob (pRow_one _) hby h63 (Nat.le_trans ba.size bb.size) ?_; intro v3 w3 h3 b3; have b4 := (thenBelow ba bb).trans b3; obtain ⟨zl0, zl1, zl2, zl3, _⟩ := preCells (FL.out.via (Below.refl _ _).drew b4); obtain ⟨zu0, zu1, zu2, zu3, _⟩ := preCells (FU.out.via (Below.refl _ _).drew b4); obtain ⟨zf0, zf1, zf2, _⟩ := addrCells (FF.out.via (Below.refl _ _).drew b4); obtain ⟨za0, za1, za2, _⟩ := addrCells (FA.out.via (Below.refl _ _).drew b4))
      | fail)
  go_wp2
  go_returns
  refine ⟨_, rfl, ?_, thenBelow GB.drew b4⟩
  unfold Owned
  rw [List.length_append, pRow_app]
  exact ownsLow h3 hWd
end Go.Proofs.YtojdlhiibffnfaaDoor

/-
  The document's CidrRange: its function value 'look', way by way.
-/
import Derived.Test.YtojdlhiibffnfaaDoorRefLookA
namespace Go.Proofs.YtojdlhiibffnfaaDoor
open Go.RowKit
set_option linter.unusedVariables false
set_option linter.unusedSimpArgs false
set_option maxHeartbeats 2000000 in
theorem lk_none1 (six : Bool) (x k a b : Nat) (hA : AL six x k) (ha : a < 2 ^ wideN six) (hb : b < 2 ^ wideN six) (h : x + (2 ^ k - 1) < a) (bF bL bO bK base : Nat) (w : World) (v : Value) (l : List PT) (St : LookSt six a b bF bL bO bK base w v l) (hlen : l.length + (([] : List PT)).length ≤ 1000000000) :
    Calls Tryd.prog 39 #[.agg #[.bool six, .int .u64 (aH x), .int .u64 (aL x), .int .i64 ((wideN six - k : Nat) : Int)], .pointer (some ⟨bF, 0, none⟩), .pointer (some ⟨bL, 0, none⟩), .pointer (some ⟨bO, 0, none⟩), .pointer (some ⟨bK, 0, none⟩)] w fun e w' => e = .returned (.tuple #[]) ∧ ∃ v', LookSt six a b bF bL bO bK base w' v' (l ++ ([] : List PT)) ∧ Fr bO v w v' w' := by
  have hx := hA.lt
  have he : x + (2 ^ k - 1) < 2 ^ wideN six := by have := hA.2.1; have := pow_one k; omega
  have L0 := Lib.hid (refLess_calls six (x + (2 ^ k - 1)) a true he ha (decide_eq_true h))
  have Ffi := Lib.hid St.hF
  have Fla := Lib.hid St.hL
  have HSt := Lib.hid St
  clear St
  go_enter Tryd.func39, Tryd.ntmps39
  go_wp2_with fail
  refine (refSpan_al hA _).mono ?_
  rintro e w1 ⟨rfl, hb1⟩
  have b1 := thenBelow (show Below w.heap.size w _ from (by first | exact Below.refl _ _ | exact (Below.refl _ _).alloc (Nat.le_refl _) _ | exact ((Below.refl _ _).alloc (Nat.le_refl _) _).alloc (by simp) _ | exact (((Below.refl _ _).alloc (Nat.le_refl _) _).alloc (by simp) _).alloc (by simp; omega) _)) hb1
  have Ffi := Lib.hid (Ffi.out.via (by first | exact Below.refl _ _ | exact (Below.refl _ _).alloc (Nat.le_refl _) _ | exact ((Below.refl _ _).alloc (Nat.le_refl _) _).alloc (by simp) _ | exact (((Below.refl _ _).alloc (Nat.le_refl _) _).alloc (by simp) _).alloc (by simp; omega) _) hb1)
  have Fla := Lib.hid (Fla.out.via (by first | exact Below.refl _ _ | exact (Below.refl _ _).alloc (Nat.le_refl _) _ | exact ((Below.refl _ _).alloc (Nat.le_refl _) _).alloc (by simp) _ | exact (((Below.refl _ _).alloc (Nat.le_refl _) _).alloc (by simp) _).alloc (by simp; omega) _) hb1)
  have Gp := (PreAt.new (w) six (aH x) (aL x) ((wideN six - k : Nat) : Int) 44).via (by first | exact Below.refl _ _ | exact (Below.refl _ _).alloc (Nat.le_refl _) _ | exact ((Below.refl _ _).alloc (Nat.le_refl _) _).alloc (by simp) _ | exact (((Below.refl _ _).alloc (Nat.le_refl _) _).alloc (by simp) _).alloc (by simp; omega) _) hb1
  try simp only [World.size_alloc] at Gp
  have Fp := Lib.hid Gp
  clear Gp
  clear hb1
  obtain ⟨fi_0, fi_1, fi_2, fi_l⟩ := Ffi.out
  have fi_m := Nat.lt_succ_of_lt fi_l
  try simp only [Nat.succ_eq_add_one, Nat.add_lt_add_iff_right] at fi_m
  go_wp2_with fail
  refine (L0.out _).mono ?_
  rintro e w2 ⟨rfl, hb2⟩
  have b2 := thenBelow (thenBelow b1 (by first | exact Below.refl _ _ | exact (Below.refl _ _).alloc (Nat.le_refl _) _ | exact ((Below.refl _ _).alloc (Nat.le_refl _) _).alloc (by simp) _ | exact (((Below.refl _ _).alloc (Nat.le_refl _) _).alloc (by simp) _).alloc (by simp; omega) _)) hb2
  clear fi_0 fi_1 fi_2 fi_l fi_m
  have Ffi := Lib.hid (Ffi.out.via (by first | exact Below.refl _ _ | exact (Below.refl _ _).alloc (Nat.le_refl _) _ | exact ((Below.refl _ _).alloc (Nat.le_refl _) _).alloc (by simp) _ | exact (((Below.refl _ _).alloc (Nat.le_refl _) _).alloc (by simp) _).alloc (by simp; omega) _) hb2)
  have Fla := Lib.hid (Fla.out.via (by first | exact Below.refl _ _ | exact (Below.refl _ _).alloc (Nat.le_refl _) _ | exact ((Below.refl _ _).alloc (Nat.le_refl _) _).alloc (by simp) _ | exact (((Below.refl _ _).alloc (Nat.le_refl _) _).alloc (by simp) _).alloc (by simp; omega) _) hb2)
  have Fp := Lib.hid (Fp.out.via (by first | exact Below.refl _ _ | exact (Below.refl _ _).alloc (Nat.le_refl _) _ | exact ((Below.refl _ _).alloc (Nat.le_refl _) _).alloc (by simp) _ | exact (((Below.refl _ _).alloc (Nat.le_refl _) _).alloc (by simp) _).alloc (by simp; omega) _) hb2)
  have Glo := (AddrAt.new (w1) six (aH x) (aL x) 24).via (by first | exact Below.refl _ _ | exact (Below.refl _ _).alloc (Nat.le_refl _) _ | exact ((Below.refl _ _).alloc (Nat.le_refl _) _).alloc (by simp) _ | exact (((Below.refl _ _).alloc (Nat.le_refl _) _).alloc (by simp) _).alloc (by simp; omega) _) hb2
  try simp only [World.size_alloc] at Glo
  have Flo := Lib.hid Glo
  clear Glo
  have Ghi := (AddrAt.new ((w1.alloc (.cells #[.bool six, .int .u64 (aH x), .int .u64 (aL x)] 24))) six (aH (x + (2 ^ k - 1))) (aL (x + (2 ^ k - 1))) 24).via (by first | exact Below.refl _ _ | exact (Below.refl _ _).alloc (Nat.le_refl _) _ | exact ((Below.refl _ _).alloc (Nat.le_refl _) _).alloc (by simp) _ | exact (((Below.refl _ _).alloc (Nat.le_refl _) _).alloc (by simp) _).alloc (by simp; omega) _) hb2
  try simp only [World.size_alloc] at Ghi
  have Fhi := Lib.hid Ghi
  clear Ghi
  clear hb2 b1
  go_wp2
  go_returns
  exact ⟨rfl, v, by simpa using HSt.out.keep (thenBelow b2 (by first | exact Below.refl _ _ | exact (Below.refl _ _).alloc (Nat.le_refl _) _ | exact ((Below.refl _ _).alloc (Nat.le_refl _) _).alloc (by simp) _ | exact (((Below.refl _ _).alloc (Nat.le_refl _) _).alloc (by simp) _).alloc (by simp; omega) _)), Fr.of (thenBelow b2 (by first | exact Below.refl _ _ | exact (Below.refl _ _).alloc (Nat.le_refl _) _ | exact ((Below.refl _ _).alloc (Nat.le_refl _) _).alloc (by simp) _ | exact (((Below.refl _ _).alloc (Nat.le_refl _) _).alloc (by simp) _).alloc (by simp; omega) _))⟩
set_option maxHeartbeats 2000000 in
theorem lk_none2 (six : Bool) (x k a b : Nat) (hA : AL six x k) (ha : a < 2 ^ wideN six) (hb : b < 2 ^ wideN six) (h0 : ¬ x + (2 ^ k - 1) < a) (h : b < x) (bF bL bO bK base : Nat) (w : World) (v : Value) (l : List PT) (St : LookSt six a b bF bL bO bK base w v l) (hlen : l.length + (([] : List PT)).length ≤ 1000000000) :
    Calls Tryd.prog 39 #[.agg #[.bool six, .int .u64 (aH x), .int .u64 (aL x), .int .i64 ((wideN six - k : Nat) : Int)], .pointer (some ⟨bF, 0, none⟩), .pointer (some ⟨bL, 0, none⟩), .pointer (some ⟨bO, 0, none⟩), .pointer (some ⟨bK, 0, none⟩)] w fun e w' => e = .returned (.tuple #[]) ∧ ∃ v', LookSt six a b bF bL bO bK base w' v' (l ++ ([] : List PT)) ∧ Fr bO v w v' w' := by
  have hx := hA.lt
  have he : x + (2 ^ k - 1) < 2 ^ wideN six := by have := hA.2.1; have := pow_one k; omega
  have L0 := Lib.hid (refLess_calls six (x + (2 ^ k - 1)) a false he ha (decide_eq_false h0))
  have L1 := Lib.hid (refLess_calls six b x true hb hx (decide_eq_true h))
  have Ffi := Lib.hid St.hF
  have Fla := Lib.hid St.hL
  have HSt := Lib.hid St
  clear St
  go_enter Tryd.func39, Tryd.ntmps39
  go_wp2_with fail
  refine (refSpan_al hA _).mono ?_
  rintro e w1 ⟨rfl, hb1⟩
  have b1 := thenBelow (show Below w.heap.size w _ from (by first | exact Below.refl _ _ | exact (Below.refl _ _).alloc (Nat.le_refl _) _ | exact ((Below.refl _ _).alloc (Nat.le_refl _) _).alloc (by simp) _ | exact (((Below.refl _ _).alloc (Nat.le_refl _) _).alloc (by simp) _).alloc (by simp; omega) _)) hb1
  have Ffi := Lib.hid (Ffi.out.via (by first | exact Below.refl _ _ | exact (Below.refl _ _).alloc (Nat.le_refl _) _ | exact ((Below.refl _ _).alloc (Nat.le_refl _) _).alloc (by simp) _ | exact (((Below.refl _ _).alloc (Nat.le_refl _) _).alloc (by simp) _).alloc (by simp; omega) _) hb1)
  have Fla := Lib.hid (Fla.out.via (by first | exact Below.refl _ _ | exact (Below.refl _ _).alloc (Nat.le_refl _) _ | exact ((Below.refl _ _).alloc (Nat.le_refl _) _).alloc (by simp) _ | exact (((Below.refl _ _).alloc (Nat.le_refl _) _).alloc (by simp) _).alloc (by simp; omega) _) hb1)
  have Gp := (PreAt.new (w) six (aH x) (aL x) ((wideN six - k : Nat) : Int) 44).via (by first | exact Below.refl _ _ | exact (Below.refl _ _).alloc (Nat.le_refl _) _ | exact ((Below.refl _ _).alloc (Nat.le_refl _) _).alloc (by simp) _ | exact (((Below.refl _ _).alloc (Nat.le_refl _) _).alloc (by simp) _).alloc (by simp; omega) _) hb1
  try simp only [World.size_alloc] at Gp
  have Fp := Lib.hid Gp
  clear Gp
  clear hb1
  obtain ⟨fi_0, fi_1, fi_2, fi_l⟩ := Ffi.out
  have fi_m := Nat.lt_succ_of_lt fi_l
  try simp only [Nat.succ_eq_add_one, Nat.add_lt_add_iff_right] at fi_m
  go_wp2_with fail
  refine (L0.out _).mono ?_
  rintro e w2 ⟨rfl, hb2⟩
  have b2 := thenBelow (thenBelow b1 (by first | exact Below.refl _ _ | exact (Below.refl _ _).alloc (Nat.le_refl _) _ | exact ((Below.refl _ _).alloc (Nat.le_refl _) _).alloc (by simp) _ | exact (((Below.refl _ _).alloc (Nat.le_refl _) _).alloc (by simp) _).alloc (by simp; omega) _)) hb2
  clear fi_0 fi_1 fi_2 fi_l fi_m
  have Ffi := Lib.hid (Ffi.out.via (by first | exact Below.refl _ _ | exact (Below.refl _ _).alloc (Nat.le_refl _) _ | exact ((Below.refl _ _).alloc (Nat.le_refl _) _).alloc (by simp) _ | exact (((Below.refl _ _).alloc (Nat.le_refl _) _).alloc (by simp) _).alloc (by simp; omega) _) hb2)
  have Fla := Lib.hid (Fla.out.via (by first | exact Below.refl _ _ | exact (Below.refl _ _).alloc (Nat.le_refl _) _ | exact ((Below.refl _ _).alloc (Nat.le_refl _) _).alloc (by simp) _ | exact (((Below.refl _ _).alloc (Nat.le_refl _) _).alloc (by simp) _).alloc (by simp; omega) _) hb2)
  have Fp := Lib.hid (Fp.out.via (by first | exact Below.refl _ _ | exact (Below.refl _ _).alloc (Nat.le_refl _) _ | exact ((Below.refl _ _).alloc (Nat.le_refl _) _).alloc (by simp) _ | exact (((Below.refl _ _).alloc (Nat.le_refl _) _).alloc (by simp) _).alloc (by simp; omega) _) hb2)
  have Glo := (AddrAt.new (w1) six (aH x) (aL x) 24).via (by first | exact Below.refl _ _ | exact (Below.refl _ _).alloc (Nat.le_refl _) _ | exact ((Below.refl _ _).alloc (Nat.le_refl _) _).alloc (by simp) _ | exact (((Below.refl _ _).alloc (Nat.le_refl _) _).alloc (by simp) _).alloc (by simp; omega) _) hb2
  try simp only [World.size_alloc] at Glo
  have Flo := Lib.hid Glo
  clear Glo
  have Ghi := (AddrAt.new ((w1.alloc (.cells #[.bool six, .int .u64 (aH x), .int .u64 (aL x)] 24))) six (aH (x + (2 ^ k - 1))) (aL (x + (2 ^ k - 1))) 24).via (by first | exact Below.refl _ _ | exact (Below.refl _ _).alloc (Nat.le_refl _) _ | exact ((Below.refl _ _).alloc (Nat.le_refl _) _).alloc (by simp) _ | exact (((Below.refl _ _).alloc (Nat.le_refl _) _).alloc (by simp) _).alloc (by simp; omega) _) hb2
  try simp only [World.size_alloc] at Ghi
  have Fhi := Lib.hid Ghi
  clear Ghi
  clear hb2 b1
  obtain ⟨la_0, la_1, la_2, la_l⟩ := Fla.out
  have la_m := Nat.lt_succ_of_lt la_l
  try simp only [Nat.succ_eq_add_one, Nat.add_lt_add_iff_right] at la_m
  obtain ⟨lo_0, lo_1, lo_2, lo_l⟩ := Flo.out
  have lo_m := Nat.lt_succ_of_lt lo_l
  try simp only [Nat.succ_eq_add_one, Nat.add_lt_add_iff_right] at lo_m
  go_wp2_with fail
  refine (L1.out _).mono ?_
  rintro e w3 ⟨rfl, hb3⟩
  have b3 := thenBelow (thenBelow b2 (by first | exact Below.refl _ _ | exact (Below.refl _ _).alloc (Nat.le_refl _) _ | exact ((Below.refl _ _).alloc (Nat.le_refl _) _).alloc (by simp) _ | exact (((Below.refl _ _).alloc (Nat.le_refl _) _).alloc (by simp) _).alloc (by simp; omega) _)) hb3
  clear la_0 la_1 la_2 la_l la_m lo_0 lo_1 lo_2 lo_l lo_m
  have Ffi := Lib.hid (Ffi.out.via (by first | exact Below.refl _ _ | exact (Below.refl _ _).alloc (Nat.le_refl _) _ | exact ((Below.refl _ _).alloc (Nat.le_refl _) _).alloc (by simp) _ | exact (((Below.refl _ _).alloc (Nat.le_refl _) _).alloc (by simp) _).alloc (by simp; omega) _) hb3)
  have Fla := Lib.hid (Fla.out.via (by first | exact Below.refl _ _ | exact (Below.refl _ _).alloc (Nat.le_refl _) _ | exact ((Below.refl _ _).alloc (Nat.le_refl _) _).alloc (by simp) _ | exact (((Below.refl _ _).alloc (Nat.le_refl _) _).alloc (by simp) _).alloc (by simp; omega) _) hb3)
  have Fp := Lib.hid (Fp.out.via (by first | exact Below.refl _ _ | exact (Below.refl _ _).alloc (Nat.le_refl _) _ | exact ((Below.refl _ _).alloc (Nat.le_refl _) _).alloc (by simp) _ | exact (((Below.refl _ _).alloc (Nat.le_refl _) _).alloc (by simp) _).alloc (by simp; omega) _) hb3)
  have Flo := Lib.hid (Flo.out.via (by first | exact Below.refl _ _ | exact (Below.refl _ _).alloc (Nat.le_refl _) _ | exact ((Below.refl _ _).alloc (Nat.le_refl _) _).alloc (by simp) _ | exact (((Below.refl _ _).alloc (Nat.le_refl _) _).alloc (by simp) _).alloc (by simp; omega) _) hb3)
  have Fhi := Lib.hid (Fhi.out.via (by first | exact Below.refl _ _ | exact (Below.refl _ _).alloc (Nat.le_refl _) _ | exact ((Below.refl _ _).alloc (Nat.le_refl _) _).alloc (by simp) _ | exact (((Below.refl _ _).alloc (Nat.le_refl _) _).alloc (by simp) _).alloc (by simp; omega) _) hb3)
  clear hb3 b2
  go_wp2
  go_returns
  exact ⟨rfl, v, by simpa using HSt.out.keep (thenBelow b3 (by first | exact Below.refl _ _ | exact (Below.refl _ _).alloc (Nat.le_refl _) _ | exact ((Below.refl _ _).alloc (Nat.le_refl _) _).alloc (by simp) _ | exact (((Below.refl _ _).alloc (Nat.le_refl _) _).alloc (by simp) _).alloc (by simp; omega) _)), Fr.of (thenBelow b3 (by first | exact Below.refl _ _ | exact (Below.refl _ _).alloc (Nat.le_refl _) _ | exact ((Below.refl _ _).alloc (Nat.le_refl _) _).alloc (by simp) _ | exact (((Below.refl _ _).alloc (Nat.le_refl _) _).alloc (by simp) _).alloc (by simp; omega) _))⟩
set_option maxHeartbeats 2000000 in
theorem lk_all (six : Bool) (x k a b : Nat) (hA : AL six x k) (ha : a < 2 ^ wideN six) (hb : b < 2 ^ wideN six) (h0 : ¬ x + (2 ^ k - 1) < a) (h1 : ¬ b < x) (h2 : ¬ x < a) (h3 : ¬ b < x + (2 ^ k - 1)) (bF bL bO bK base : Nat) (w : World) (v : Value) (l : List PT) (St : LookSt six a b bF bL bO bK base w v l) (hlen : l.length + ([((six, x, ((wideN six - k : Nat) : Int)) : PT)]).length ≤ 1000000000) :
    Calls Tryd.prog 39 #[.agg #[.bool six, .int .u64 (aH x), .int .u64 (aL x), .int .i64 ((wideN six - k : Nat) : Int)], .pointer (some ⟨bF, 0, none⟩), .pointer (some ⟨bL, 0, none⟩), .pointer (some ⟨bO, 0, none⟩), .pointer (some ⟨bK, 0, none⟩)] w fun e w' => e = .returned (.tuple #[]) ∧ ∃ v', LookSt six a b bF bL bO bK base w' v' (l ++ [((six, x, ((wideN six - k : Nat) : Int)) : PT)]) ∧ Fr bO v w v' w' := by
  have hx := hA.lt
  have he : x + (2 ^ k - 1) < 2 ^ wideN six := by have := hA.2.1; have := pow_one k; omega
  have L0 := Lib.hid (refLess_calls six (x + (2 ^ k - 1)) a false he ha (decide_eq_false h0))
  have L1 := Lib.hid (refLess_calls six b x false hb hx (decide_eq_false h1))
  have L2 := Lib.hid (refLess_calls six x a false hx ha (decide_eq_false h2))
  have L3 := Lib.hid (refLess_calls six b (x + (2 ^ k - 1)) false hb he (decide_eq_false h3))
  obtain ⟨i0, hii, hz0, hz1, hz2⟩ := info_parts info_pre
  have Ffi := Lib.hid St.hF
  have Fla := Lib.hid St.hL
  have HSt := Lib.hid St
  clear St
  go_enter Tryd.func39, Tryd.ntmps39
  go_wp2_with fail
  refine (refSpan_al hA _).mono ?_
  rintro e w1 ⟨rfl, hb1⟩
  have b1 := thenBelow (show Below w.heap.size w _ from (by first | exact Below.refl _ _ | exact (Below.refl _ _).alloc (Nat.le_refl _) _ | exact ((Below.refl _ _).alloc (Nat.le_refl _) _).alloc (by simp) _ | exact (((Below.refl _ _).alloc (Nat.le_refl _) _).alloc (by simp) _).alloc (by simp; omega) _)) hb1
  have Ffi := Lib.hid (Ffi.out.via (by first | exact Below.refl _ _ | exact (Below.refl _ _).alloc (Nat.le_refl _) _ | exact ((Below.refl _ _).alloc (Nat.le_refl _) _).alloc (by simp) _ | exact (((Below.refl _ _).alloc (Nat.le_refl _) _).alloc (by simp) _).alloc (by simp; omega) _) hb1)
  have Fla := Lib.hid (Fla.out.via (by first | exact Below.refl _ _ | exact (Below.refl _ _).alloc (Nat.le_refl _) _ | exact ((Below.refl _ _).alloc (Nat.le_refl _) _).alloc (by simp) _ | exact (((Below.refl _ _).alloc (Nat.le_refl _) _).alloc (by simp) _).alloc (by simp; omega) _) hb1)
  have Gp := (PreAt.new (w) six (aH x) (aL x) ((wideN six - k : Nat) : Int) 44).via (by first | exact Below.refl _ _ | exact (Below.refl _ _).alloc (Nat.le_refl _) _ | exact ((Below.refl _ _).alloc (Nat.le_refl _) _).alloc (by simp) _ | exact (((Below.refl _ _).alloc (Nat.le_refl _) _).alloc (by simp) _).alloc (by simp; omega) _) hb1
  try simp only [World.size_alloc] at Gp
  have Fp := Lib.hid Gp
  clear Gp
  clear hb1
  obtain ⟨fi_0, fi_1, fi_2, fi_l⟩ := Ffi.out
  have fi_m := Nat.lt_succ_of_lt fi_l
  try simp only [Nat.succ_eq_add_one, Nat.add_lt_add_iff_right] at fi_m
  go_wp2_with fail
  refine (L0.out _).mono ?_
  rintro e w2 ⟨rfl, hb2⟩
  have b2 := thenBelow (thenBelow b1 (by first | exact Below.refl _ _ | exact (Below.refl _ _).alloc (Nat.le_refl _) _ | exact ((Below.refl _ _).alloc (Nat.le_refl _) _).alloc (by simp) _ | exact (((Below.refl _ _).alloc (Nat.le_refl _) _).alloc (by simp) _).alloc (by simp; omega) _)) hb2
  clear fi_0 fi_1 fi_2 fi_l fi_m
  have Ffi := Lib.hid (Ffi.out.via (by first | exact Below.refl _ _ | exact (Below.refl _ _).alloc (Nat.le_refl _) _ | exact ((Below.refl _ _).alloc (Nat.le_refl _) _).alloc (by simp) _ | exact (((Below.refl _ _).alloc (Nat.le_refl _) _).alloc (by simp) _).alloc (by simp; omega) _) hb2)
  have Fla := Lib.hid (Fla.out.via (by first | exact Below.refl _ _ | exact (Below.refl _ _).alloc (Nat.le_refl _) _ | exact ((Below.refl _ _).alloc (Nat.le_refl _) _).alloc (by simp) _ | exact (((Below.refl _ _).alloc (Nat.le_refl _) _).alloc (by simp) _).alloc (by simp; omega) _) hb2)
  have Fp := Lib.hid (Fp.out.via (by first | exact Below.refl _ _ | exact (Below.refl _ _).alloc (Nat.le_refl _) _ | exact ((Below.refl _ _).alloc (Nat.le_refl _) _).alloc (by simp) _ | exact (((Below.refl _ _).alloc (Nat.le_refl _) _).alloc (by simp) _).alloc (by simp; omega) _) hb2)
  have Glo := (AddrAt.new (w1) six (aH x) (aL x) 24).via (by first | exact Below.refl _ _ | exact (Below.refl _ _).alloc (Nat.le_refl _) _ | exact ((Below.refl _ _).alloc (Nat.le_refl _) _).alloc (by simp) _ | exact (((Below.refl _ _).alloc (Nat.le_refl _) _).alloc (by simp) _).alloc (by simp; omega) _) hb2
  try simp only [World.size_alloc] at Glo
  have Flo := Lib.hid Glo
  clear Glo
  have Ghi := (AddrAt.new ((w1.alloc (.cells #[.bool six, .int .u64 (aH x), .int .u64 (aL x)] 24))) six (aH (x + (2 ^ k - 1))) (aL (x + (2 ^ k - 1))) 24).via (by first | exact Below.refl _ _ | exact (Below.refl _ _).alloc (Nat.le_refl _) _ | exact ((Below.refl _ _).alloc (Nat.le_refl _) _).alloc (by simp) _ | exact (((Below.refl _ _).alloc (Nat.le_refl _) _).alloc (by simp) _).alloc (by simp; omega) _) hb2
  try simp only [World.size_alloc] at Ghi
  have Fhi := Lib.hid Ghi
  clear Ghi
  clear hb2 b1
  obtain ⟨la_0, la_1, la_2, la_l⟩ := Fla.out
  have la_m := Nat.lt_succ_of_lt la_l
  try simp only [Nat.succ_eq_add_one, Nat.add_lt_add_iff_right] at la_m
  obtain ⟨lo_0, lo_1, lo_2, lo_l⟩ := Flo.out
  have lo_m := Nat.lt_succ_of_lt lo_l
  try simp only [Nat.succ_eq_add_one, Nat.add_lt_add_iff_right] at lo_m
  go_wp2_with fail
  refine (L1.out _).mono ?_
  rintro e w3 ⟨rfl, hb3⟩
  have b3 := thenBelow (thenBelow b2 (by first | exact Below.refl _ _ | exact (Below.refl _ _).alloc (Nat.le_refl _) _ | exact ((Below.refl _ _).alloc (Nat.le_refl _) _).alloc (by simp) _ | exact (((Below.refl _ _).alloc (Nat.le_refl _) _).alloc (by simp) _).alloc (by simp; omega) _)) hb3
  clear la_0 la_1 la_2 la_l la_m lo_0 lo_1 lo_2 lo_l lo_m
  have Ffi := Lib.hid (Ffi.out.via (by first | exact Below.refl _ _ | exact (Below.refl _ _).alloc (Nat.le_refl _) _ | exact ((Below.refl _ _).alloc (Nat.le_refl _) _).alloc (by simp) _ | exact (((Below.refl _ _).alloc (Nat.le_refl _) _).alloc (by simp) _).alloc (by simp; omega) _) hb3)
  have Fla := Lib.hid (Fla.out.via (by first | exact Below.refl _ _ | exact (Below.refl _ _).alloc (Nat.le_refl _) _ | exact ((Below.refl _ _).alloc (Nat.le_refl _) _).alloc (by simp) _ | exact (((Below.refl _ _).alloc (Nat.le_refl _) _).alloc (by simp) _).alloc (by simp; omega) _) hb3)
  have Fp := Lib.hid (Fp.out.via (by first | exact Below.refl _ _ | exact (Below.refl _ _).alloc (Nat.le_refl _) _ | exact ((Below.refl _ _).alloc (Nat.le_refl _) _).alloc (by simp) _ | exact (((Below.refl _ _).alloc (Nat.le_refl _) _).alloc (by simp) _).alloc (by simp; omega) _) hb3)
  have Flo := Lib.hid (Flo.out.via (by first | exact Below.refl _ _ | exact (Below.refl _ _).alloc (Nat.le_refl _) _ | exact ((Below.refl _ _).alloc (Nat.le_refl _) _).alloc (by simp) _ | exact (((Below.refl _ _).alloc (Nat.le_refl _) _).alloc (by simp) _).alloc (by simp; omega) _) hb3)
  have Fhi := Lib.hid (Fhi.out.via (by first | exact Below.refl _ _ | exact (Below.refl _ _).alloc (Nat.le_refl _) _ | exact ((Below.refl _ _).alloc (Nat.le_refl _) _).alloc (by simp) _ | exact (((Below.refl _ _).alloc (Nat.le_refl _) _).alloc (by simp) _).alloc (by simp; omega) _) hb3)
  clear hb3 b2
  obtain ⟨lo_0, lo_1, lo_2, lo_l⟩ := Flo.out
  have lo_m := Nat.lt_succ_of_lt lo_l
  try simp only [Nat.succ_eq_add_one, Nat.add_lt_add_iff_right] at lo_m
  obtain ⟨fi_0, fi_1, fi_2, fi_l⟩ := Ffi.out
  have fi_m := Nat.lt_succ_of_lt fi_l
  try simp only [Nat.succ_eq_add_one, Nat.add_lt_add_iff_right] at fi_m
  go_wp2_with fail
  refine (L2.out _).mono ?_
  rintro e w4 ⟨rfl, hb4⟩
  have b4 := thenBelow (thenBelow b3 (by first | exact Below.refl _ _ | exact (Below.refl _ _).alloc (Nat.le_refl _) _ | exact ((Below.refl _ _).alloc (Nat.le_refl _) _).alloc (by simp) _ | exact (((Below.refl _ _).alloc (Nat.le_refl _) _).alloc (by simp) _).alloc (by simp; omega) _)) hb4
  clear lo_0 lo_1 lo_2 lo_l lo_m fi_0 fi_1 fi_2 fi_l fi_m
  have Ffi := Lib.hid (Ffi.out.via (by first | exact Below.refl _ _ | exact (Below.refl _ _).alloc (Nat.le_refl _) _ | exact ((Below.refl _ _).alloc (Nat.le_refl _) _).alloc (by simp) _ | exact (((Below.refl _ _).alloc (Nat.le_refl _) _).alloc (by simp) _).alloc (by simp; omega) _) hb4)
  have Fla := Lib.hid (Fla.out.via (by first | exact Below.refl _ _ | exact (Below.refl _ _).alloc (Nat.le_refl _) _ | exact ((Below.refl _ _).alloc (Nat.le_refl _) _).alloc (by simp) _ | exact (((Below.refl _ _).alloc (Nat.le_refl _) _).alloc (by simp) _).alloc (by simp; omega) _) hb4)
  have Fp := Lib.hid (Fp.out.via (by first | exact Below.refl _ _ | exact (Below.refl _ _).alloc (Nat.le_refl _) _ | exact ((Below.refl _ _).alloc (Nat.le_refl _) _).alloc (by simp) _ | exact (((Below.refl _ _).alloc (Nat.le_refl _) _).alloc (by simp) _).alloc (by simp; omega) _) hb4)
  have Flo := Lib.hid (Flo.out.via (by first | exact Below.refl _ _ | exact (Below.refl _ _).alloc (Nat.le_refl _) _ | exact ((Below.refl _ _).alloc (Nat.le_refl _) _).alloc (by simp) _ | exact (((Below.refl _ _).alloc (Nat.le_refl _) _).alloc (by simp) _).alloc (by simp; omega) _) hb4)
  have Fhi := Lib.hid (Fhi.out.via (by first | exact Below.refl _ _ | exact (Below.refl _ _).alloc (Nat.le_refl _) _ | exact ((Below.refl _ _).alloc (Nat.le_refl _) _).alloc (by simp) _ | exact (((Below.refl _ _).alloc (Nat.le_refl _) _).alloc (by simp) _).alloc (by simp; omega) _) hb4)
  clear hb4 b3
  obtain ⟨la_0, la_1, la_2, la_l⟩ := Fla.out
  have la_m := Nat.lt_succ_of_lt la_l
  try simp only [Nat.succ_eq_add_one, Nat.add_lt_add_iff_right] at la_m
  obtain ⟨hi_0, hi_1, hi_2, hi_l⟩ := Fhi.out
  have hi_m := Nat.lt_succ_of_lt hi_l
  try simp only [Nat.succ_eq_add_one, Nat.add_lt_add_iff_right] at hi_m
  go_wp2_with fail
  refine (L3.out _).mono ?_
  rintro e w5 ⟨rfl, hb5⟩
  have b5 := thenBelow (thenBelow b4 (by first | exact Below.refl _ _ | exact (Below.refl _ _).alloc (Nat.le_refl _) _ | exact ((Below.refl _ _).alloc (Nat.le_refl _) _).alloc (by simp) _ | exact (((Below.refl _ _).alloc (Nat.le_refl _) _).alloc (by simp) _).alloc (by simp; omega) _)) hb5
  clear la_0 la_1 la_2 la_l la_m hi_0 hi_1 hi_2 hi_l hi_m
  have Ffi := Lib.hid (Ffi.out.via (by first | exact Below.refl _ _ | exact (Below.refl _ _).alloc (Nat.le_refl _) _ | exact ((Below.refl _ _).alloc (Nat.le_refl _) _).alloc (by simp) _ | exact (((Below.refl _ _).alloc (Nat.le_refl _) _).alloc (by simp) _).alloc (by simp; omega) _) hb5)
  have Fla := Lib.hid (Fla.out.via (by first | exact Below.refl _ _ | exact (Below.refl _ _).alloc (Nat.le_refl _) _ | exact ((Below.refl _ _).alloc (Nat.le_refl _) _).alloc (by simp) _ | exact (((Below.refl _ _).alloc (Nat.le_refl _) _).alloc (by simp) _).alloc (by simp; omega) _) hb5)
  have Fp := Lib.hid (Fp.out.via (by first | exact Below.refl _ _ | exact (Below.refl _ _).alloc (Nat.le_refl _) _ | exact ((Below.refl _ _).alloc (Nat.le_refl _) _).alloc (by simp) _ | exact (((Below.refl _ _).alloc (Nat.le_refl _) _).alloc (by simp) _).alloc (by simp; omega) _) hb5)
  have Flo := Lib.hid (Flo.out.via (by first | exact Below.refl _ _ | exact (Below.refl _ _).alloc (Nat.le_refl _) _ | exact ((Below.refl _ _).alloc (Nat.le_refl _) _).alloc (by simp) _ | exact (((Below.refl _ _).alloc (Nat.le_refl _) _).alloc (by simp) _).alloc (by simp; omega) _) hb5)
  have Fhi := Lib.hid (Fhi.out.via (by first | exact Below.refl _ _ | exact (Below.refl _ _).alloc (Nat.le_refl _) _ | exact ((Below.refl _ _).alloc (Nat.le_refl _) _).alloc (by simp) _ | exact (((Below.refl _ _).alloc (Nat.le_refl _) _).alloc (by simp) _).alloc (by simp; omega) _) hb5)
  clear hb5 b4
  obtain ⟨p_0, p_1, p_2, p_3, p_l⟩ := Fp.out
  have p_m := Nat.lt_succ_of_lt p_l
  try simp only [Nat.succ_eq_add_one, Nat.add_lt_add_iff_right] at p_m
  have St4 := HSt.out.keep b5
  have hO := St4.hO
  have fO := St4.fO
  have lO := St4.lO
  have lB := St4.lB
  have HS4 := Lib.hid St4
  have hl1 : l.length + 1 ≤ 1000000000 := by simpa using hlen
  clear St4
  go_wp2_with (first
    | (at_builtin; refine wpList_append_lies _ rfl _ _ 25 rfl base 44 i0 _ 4 32 Tryd.underlying25 hii hz0 hz1 hz2 rfl (by decide) _ _ _ rfl (HS4.out.own.alloc _) ⟨w5.heap.size, 0, none⟩ 1 1 (pRow [(six, x, ((wideN six - k : Nat) : Int))]) rfl rfl ?c1 (pRow_one _) (by decide) ?c3 ?c4 ?c5 (w5.heap.size + 1) (by simp) ?_))
  case c1 => exact World.news_of_block (heap_alloc_new w5 _)
  case c3 => unfold maxLen; omega
  case c4 => omega
  case c5 => first | omega | (simp; omega)
  intro g cap w9 own9 hgrow hat hlt9
  have own9 : Owned w9 base (.slice (some ⟨g, 0, none⟩) (l.length + 1) cap) (l ++ [(six, x, ((wideN six - k : Nat) : Int))]) := by
    unfold Owned
    rw [pRow_app, List.length_append]
    exact own9
  have hnO : some bO ≠ v.ownBlock := fun e => by have := (HS4.out.own.lt bO e.symm).1; omega
  have cO : w9.cell? ⟨bO, 0, none⟩ = some v := (hgrow.cell_far ⟨bO, 0, none⟩ (by simp; omega) hnO).trans ((World.cell?_alloc_lt _ _ _ (by show bO < w5.heap.size; omega)).trans hO)
  have zO : w9.frozen? ⟨bO, 0, none⟩ = false := (hgrow.frozen_far ⟨bO, 0, none⟩ (by simp; omega) hnO).trans ((((Below.refl w5.heap.size w5).alloc (Nat.le_refl _) _).frozen (p := ⟨bO, 0, none⟩) (by show bO < w5.heap.size; omega)).trans fO)
  have FIN := Lib.hid (HS4.out.app hgrow own9 (hat.imp id (fun h => by omega)))
  clear hO fO hgrow own9 HS4
  go_wp2
  go_returns
  exact ⟨rfl, _, FIN.out.1, (Fr.of b5).trans FIN.out.2⟩
set_option maxHeartbeats 2000000 in
theorem lk_split1 (six : Bool) (x k a b : Nat) (hA : AL six x (k + 1)) (ha : a < 2 ^ wideN six) (hb : b < 2 ^ wideN six) (h0 : ¬ x + (2 ^ (k + 1) - 1) < a) (h1 : ¬ b < x) (h2 : x < a) (l1 l2 : List PT) (bF bL bO bK base : Nat) 
    (K1 : Hid (∀ (W : World) (v : Value) (l : List PT), LookSt six a b bF bL bO bK base W v l → l.length + l1.length ≤ 1000000000 → Calls Tryd.prog 39 #[.agg #[.bool six, .int .u64 (aH x), .int .u64 (aL x), .int .i64 ((wideN six - k : Nat) : Int)], .pointer (some ⟨bF, 0, none⟩), .pointer (some ⟨bL, 0, none⟩), .pointer (some ⟨bO, 0, none⟩), .pointer (some ⟨bK, 0, none⟩)] W fun e w' => e = .returned (.tuple #[]) ∧ ∃ v', LookSt six a b bF bL bO bK base w' v' (l ++ l1) ∧ Fr bO v W v' w'))
    (K2 : Hid (∀ (W : World) (v : Value) (l : List PT), LookSt six a b bF bL bO bK base W v l → l.length + l2.length ≤ 1000000000 → Calls Tryd.prog 39 #[.agg #[.bool six, .int .u64 (aH (x + 2 ^ k)), .int .u64 (aL (x + 2 ^ k)), .int .i64 ((wideN six - k : Nat) : Int)], .pointer (some ⟨bF, 0, none⟩), .pointer (some ⟨bL, 0, none⟩), .pointer (some ⟨bO, 0, none⟩), .pointer (some ⟨bK, 0, none⟩)] W fun e w' => e = .returned (.tuple #[]) ∧ ∃ v', LookSt six a b bF bL bO bK base w' v' (l ++ l2) ∧ Fr bO v W v' w'))
    (w : World) (v : Value) (l : List PT) (St : LookSt six a b bF bL bO bK base w v l) (hlen : l.length + ((l1 ++ l2)).length ≤ 1000000000) :
    Calls Tryd.prog 39 #[.agg #[.bool six, .int .u64 (aH x), .int .u64 (aL x), .int .i64 ((wideN six - (k + 1) : Nat) : Int)], .pointer (some ⟨bF, 0, none⟩), .pointer (some ⟨bL, 0, none⟩), .pointer (some ⟨bO, 0, none⟩), .pointer (some ⟨bK, 0, none⟩)] w fun e w' => e = .returned (.tuple #[]) ∧ ∃ v', LookSt six a b bF bL bO bK base w' v' (l ++ (l1 ++ l2)) ∧ Fr bO v w v' w' := by
  have hx := hA.lt
  have he : x + (2 ^ (k + 1) - 1) < 2 ^ wideN six := by have := hA.2.1; have := pow_one (k + 1); omega
  have L0 := Lib.hid (refLess_calls six (x + (2 ^ (k + 1) - 1)) a false he ha (decide_eq_false h0))
  have L1 := Lib.hid (refLess_calls six b x false hb hx (decide_eq_false h1))
  have L2 := Lib.hid (refLess_calls six x a true hx ha (decide_eq_true h2))
  have HH := Lib.hid (refHalves_al hA)
  have Ffi := Lib.hid St.hF
  have Fla := Lib.hid St.hL
  have HSt := Lib.hid St
  clear St
  go_enter Tryd.func39, Tryd.ntmps39
  go_wp2_with fail
  refine (refSpan_al hA _).mono ?_
  rintro e w1 ⟨rfl, hb1⟩
  have b1 := thenBelow (show Below w.heap.size w _ from (by first | exact Below.refl _ _ | exact (Below.refl _ _).alloc (Nat.le_refl _) _ | exact ((Below.refl _ _).alloc (Nat.le_refl _) _).alloc (by simp) _ | exact (((Below.refl _ _).alloc (Nat.le_refl _) _).alloc (by simp) _).alloc (by simp; omega) _)) hb1
  have Ffi := Lib.hid (Ffi.out.via (by first | exact Below.refl _ _ | exact (Below.refl _ _).alloc (Nat.le_refl _) _ | exact ((Below.refl _ _).alloc (Nat.le_refl _) _).alloc (by simp) _ | exact (((Below.refl _ _).alloc (Nat.le_refl _) _).alloc (by simp) _).alloc (by simp; omega) _) hb1)
  have Fla := Lib.hid (Fla.out.via (by first | exact Below.refl _ _ | exact (Below.refl _ _).alloc (Nat.le_refl _) _ | exact ((Below.refl _ _).alloc (Nat.le_refl _) _).alloc (by simp) _ | exact (((Below.refl _ _).alloc (Nat.le_refl _) _).alloc (by simp) _).alloc (by simp; omega) _) hb1)
  have Gp := (PreAt.new (w) six (aH x) (aL x) ((wideN six - (k + 1) : Nat) : Int) 44).via (by first | exact Below.refl _ _ | exact (Below.refl _ _).alloc (Nat.le_refl _) _ | exact ((Below.refl _ _).alloc (Nat.le_refl _) _).alloc (by simp) _ | exact (((Below.refl _ _).alloc (Nat.le_refl _) _).alloc (by simp) _).alloc (by simp; omega) _) hb1
  try simp only [World.size_alloc] at Gp
  have Fp := Lib.hid Gp
  clear Gp
  clear hb1
  obtain ⟨fi_0, fi_1, fi_2, fi_l⟩ := Ffi.out
  have fi_m := Nat.lt_succ_of_lt fi_l
  try simp only [Nat.succ_eq_add_one, Nat.add_lt_add_iff_right] at fi_m
  go_wp2_with fail
  refine (L0.out _).mono ?_
  rintro e w2 ⟨rfl, hb2⟩
  have b2 := thenBelow (thenBelow b1 (by first | exact Below.refl _ _ | exact (Below.refl _ _).alloc (Nat.le_refl _) _ | exact ((Below.refl _ _).alloc (Nat.le_refl _) _).alloc (by simp) _ | exact (((Below.refl _ _).alloc (Nat.le_refl _) _).alloc (by simp) _).alloc (by simp; omega) _)) hb2
  clear fi_0 fi_1 fi_2 fi_l fi_m
  have Ffi := Lib.hid (Ffi.out.via (by first | exact Below.refl _ _ | exact (Below.refl _ _).alloc (Nat.le_refl _) _ | exact ((Below.refl _ _).alloc (Nat.le_refl _) _).alloc (by simp) _ | exact (((Below.refl _ _).alloc (Nat.le_refl _) _).alloc (by simp) _).alloc (by simp; omega) _) hb2)
  have Fla := Lib.hid (Fla.out.via (by first | exact Below.refl _ _ | exact (Below.refl _ _).alloc (Nat.le_refl _) _ | exact ((Below.refl _ _).alloc (Nat.le_refl _) _).alloc (by simp) _ | exact (((Below.refl _ _).alloc (Nat.le_refl _) _).alloc (by simp) _).alloc (by simp; omega) _) hb2)
  have Fp := Lib.hid (Fp.out.via (by first | exact Below.refl _ _ | exact (Below.refl _ _).alloc (Nat.le_refl _) _ | exact ((Below.refl _ _).alloc (Nat.le_refl _) _).alloc (by simp) _ | exact (((Below.refl _ _).alloc (Nat.le_refl _) _).alloc (by simp) _).alloc (by simp; omega) _) hb2)
  have Glo := (AddrAt.new (w1) six (aH x) (aL x) 24).via (by first | exact Below.refl _ _ | exact (Below.refl _ _).alloc (Nat.le_refl _) _ | exact ((Below.refl _ _).alloc (Nat.le_refl _) _).alloc (by simp) _ | exact (((Below.refl _ _).alloc (Nat.le_refl _) _).alloc (by simp) _).alloc (by simp; omega) _) hb2
  try simp only [World.size_alloc] at Glo
  have Flo := Lib.hid Glo
  clear Glo
  have Ghi := (AddrAt.new ((w1.alloc (.cells #[.bool six, .int .u64 (aH x), .int .u64 (aL x)] 24))) six (aH (x + (2 ^ (k + 1) - 1))) (aL (x + (2 ^ (k + 1) - 1))) 24).via (by first | exact Below.refl _ _ | exact (Below.refl _ _).alloc (Nat.le_refl _) _ | exact ((Below.refl _ _).alloc (Nat.le_refl _) _).alloc (by simp) _ | exact (((Below.refl _ _).alloc (Nat.le_refl _) _).alloc (by simp) _).alloc (by simp; omega) _) hb2
  try simp only [World.size_alloc] at Ghi
  have Fhi := Lib.hid Ghi
  clear Ghi
  clear hb2 b1
  obtain ⟨la_0, la_1, la_2, la_l⟩ := Fla.out
  have la_m := Nat.lt_succ_of_lt la_l
  try simp only [Nat.succ_eq_add_one, Nat.add_lt_add_iff_right] at la_m
  obtain ⟨lo_0, lo_1, lo_2, lo_l⟩ := Flo.out
  have lo_m := Nat.lt_succ_of_lt lo_l
  try simp only [Nat.succ_eq_add_one, Nat.add_lt_add_iff_right] at lo_m
  go_wp2_with fail
  refine (L1.out _).mono ?_
  rintro e w3 ⟨rfl, hb3⟩
  have b3 := thenBelow (thenBelow b2 (by first | exact Below.refl _ _ | exact (Below.refl _ _).alloc (Nat.le_refl _) _ | exact ((Below.refl _ _).alloc (Nat.le_refl _) _).alloc (by simp) _ | exact (((Below.refl _ _).alloc (Nat.le_refl _) _).alloc (by simp) _).alloc (by simp; omega) _)) hb3
  clear la_0 la_1 la_2 la_l la_m lo_0 lo_1 lo_2 lo_l lo_m
  have Ffi := Lib.hid (Ffi.out.via (by first | exact Below.refl _ _ | exact (Below.refl _ _).alloc (Nat.le_refl _) _ | exact ((Below.refl _ _).alloc (Nat.le_refl _) _).alloc (by simp) _ | exact (((Below.refl _ _).alloc (Nat.le_refl _) _).alloc (by simp) _).alloc (by simp; omega) _) hb3)
  have Fla := Lib.hid (Fla.out.via (by first | exact Below.refl _ _ | exact (Below.refl _ _).alloc (Nat.le_refl _) _ | exact ((Below.refl _ _).alloc (Nat.le_refl _) _).alloc (by simp) _ | exact (((Below.refl _ _).alloc (Nat.le_refl _) _).alloc (by simp) _).alloc (by simp; omega) _) hb3)
  have Fp := Lib.hid (Fp.out.via (by first | exact Below.refl _ _ | exact (Below.refl _ _).alloc (Nat.le_refl _) _ | exact ((Below.refl _ _).alloc (Nat.le_refl _) _).alloc (by simp) _ | exact (((Below.refl _ _).alloc (Nat.le_refl _) _).alloc (by simp) _).alloc (by simp; omega) _) hb3)
  have Flo := Lib.hid (Flo.out.via (by first | exact Below.refl _ _ | exact (Below.refl _ _).alloc (Nat.le_refl _) _ | exact ((Below.refl _ _).alloc (Nat.le_refl _) _).alloc (by simp) _ | exact (((Below.refl _ _).alloc (Nat.le_refl _) _).alloc (by simp) _).alloc (by simp; omega) _) hb3)
  have Fhi := Lib.hid (Fhi.out.via (by first | exact Below.refl _ _ | exact (Below.refl _ _).alloc (Nat.le_refl _) _ | exact ((Below.refl _ _).alloc (Nat.le_refl _) _).alloc (by simp) _ | exact (((Below.refl _ _).alloc (Nat.le_refl _) _).alloc (by simp) _).alloc (by simp; omega) _) hb3)
  clear hb3 b2
  obtain ⟨lo_0, lo_1, lo_2, lo_l⟩ := Flo.out
  have lo_m := Nat.lt_succ_of_lt lo_l
  try simp only [Nat.succ_eq_add_one, Nat.add_lt_add_iff_right] at lo_m
  obtain ⟨fi_0, fi_1, fi_2, fi_l⟩ := Ffi.out
  have fi_m := Nat.lt_succ_of_lt fi_l
  try simp only [Nat.succ_eq_add_one, Nat.add_lt_add_iff_right] at fi_m
  go_wp2_with fail
  refine (L2.out _).mono ?_
  rintro e w4 ⟨rfl, hb4⟩
  have b4 := thenBelow (thenBelow b3 (by first | exact Below.refl _ _ | exact (Below.refl _ _).alloc (Nat.le_refl _) _ | exact ((Below.refl _ _).alloc (Nat.le_refl _) _).alloc (by simp) _ | exact (((Below.refl _ _).alloc (Nat.le_refl _) _).alloc (by simp) _).alloc (by simp; omega) _)) hb4
  clear lo_0 lo_1 lo_2 lo_l lo_m fi_0 fi_1 fi_2 fi_l fi_m
  have Ffi := Lib.hid (Ffi.out.via (by first | exact Below.refl _ _ | exact (Below.refl _ _).alloc (Nat.le_refl _) _ | exact ((Below.refl _ _).alloc (Nat.le_refl _) _).alloc (by simp) _ | exact (((Below.refl _ _).alloc (Nat.le_refl _) _).alloc (by simp) _).alloc (by simp; omega) _) hb4)
  have Fla := Lib.hid (Fla.out.via (by first | exact Below.refl _ _ | exact (Below.refl _ _).alloc (Nat.le_refl _) _ | exact ((Below.refl _ _).alloc (Nat.le_refl _) _).alloc (by simp) _ | exact (((Below.refl _ _).alloc (Nat.le_refl _) _).alloc (by simp) _).alloc (by simp; omega) _) hb4)
  have Fp := Lib.hid (Fp.out.via (by first | exact Below.refl _ _ | exact (Below.refl _ _).alloc (Nat.le_refl _) _ | exact ((Below.refl _ _).alloc (Nat.le_refl _) _).alloc (by simp) _ | exact (((Below.refl _ _).alloc (Nat.le_refl _) _).alloc (by simp) _).alloc (by simp; omega) _) hb4)
  have Flo := Lib.hid (Flo.out.via (by first | exact Below.refl _ _ | exact (Below.refl _ _).alloc (Nat.le_refl _) _ | exact ((Below.refl _ _).alloc (Nat.le_refl _) _).alloc (by simp) _ | exact (((Below.refl _ _).alloc (Nat.le_refl _) _).alloc (by simp) _).alloc (by simp; omega) _) hb4)
  have Fhi := Lib.hid (Fhi.out.via (by first | exact Below.refl _ _ | exact (Below.refl _ _).alloc (Nat.le_refl _) _ | exact ((Below.refl _ _).alloc (Nat.le_refl _) _).alloc (by simp) _ | exact (((Below.refl _ _).alloc (Nat.le_refl _) _).alloc (by simp) _).alloc (by simp; omega) _) hb4)
  clear hb4 b3
  obtain ⟨p_0, p_1, p_2, p_3, p_l⟩ := Fp.out
  have p_m := Nat.lt_succ_of_lt p_l
  try simp only [Nat.succ_eq_add_one, Nat.add_lt_add_iff_right] at p_m
  go_wp2_with fail
  refine (HH.out _).mono ?_
  rintro e w5 ⟨rfl, hb5⟩
  have b5 := thenBelow (thenBelow b4 (by first | exact Below.refl _ _ | exact (Below.refl _ _).alloc (Nat.le_refl _) _ | exact ((Below.refl _ _).alloc (Nat.le_refl _) _).alloc (by simp) _ | exact (((Below.refl _ _).alloc (Nat.le_refl _) _).alloc (by simp) _).alloc (by simp; omega) _)) hb5
  clear p_0 p_1 p_2 p_3 p_l p_m
  clear Ffi
  clear Fla
  clear Fp
  clear Flo
  clear Fhi
  clear hb5 b4
  have S1 := (HSt.out.keep b5).keep (((Below.refl _ w5).alloc (Nat.le_refl _) (.cells #[.bool six, .int .u64 (aH x), .int .u64 (aL x), .int .i64 ((wideN six - k : Nat) : Int)] 44)).alloc (by simp) (.cells #[.bool six, .int .u64 (aH (x + 2 ^ k)), .int .u64 (aL (x + 2 ^ k)), .int .i64 ((wideN six - k : Nat) : Int)] 44))
  have hK := (HSt.out.keep b5).hK
  have lKw : bK < w5.heap.size := Nat.lt_of_lt_of_le (HSt.out.keep b5).lK (HSt.out.keep b5).lB
  have hn2 : l.length + l1.length ≤ 1000000000 ∧ (l ++ l1).length + l2.length ≤ 1000000000 := by rw [List.length_append] at hlen ⊢; omega
  have GU := PreAt.new (w5.alloc (.cells #[.bool six, .int .u64 (aH x), .int .u64 (aL x), .int .i64 ((wideN six - k : Nat) : Int)] 44)) six (aH (x + 2 ^ k)) (aL (x + 2 ^ k)) ((wideN six - k : Nat) : Int) 44
  have GB := thenBelow b5 (((Below.refl _ w5).alloc (Nat.le_refl _) (.cells #[.bool six, .int .u64 (aH x), .int .u64 (aL x), .int .i64 ((wideN six - k : Nat) : Int)] 44)).alloc (by simp) (.cells #[.bool six, .int .u64 (aH (x + 2 ^ k)), .int .u64 (aL (x + 2 ^ k)), .int .i64 ((wideN six - k : Nat) : Int)] 44))
  have own := (HSt.out.keep b5).own
  have hU1 : w5.heap.size + 1 ≠ bO := by have := S1.lO; have := (HSt.out.keep b5).lB; omega
  have hU2 : v.ownBlock ≠ some (w5.heap.size + 1) := fun e => by have := (own.lt _ e).2; omega
  rw [World.size_alloc] at GU
  go_wp2_with fail
  refine (K1.out _ v l S1 hn2.1).mono ?_
  rintro e wa ⟨rfl, va, Sa, fa⟩
  have GU2 := GU.fr fa hU1 hU2
  have hKa := Sa.hK
  obtain ⟨u0, u1, u2, u3, _⟩ := GU2
  clear GU hK own
  go_wp2_with fail
  refine (K2.out wa va (l ++ l1) Sa hn2.2).mono ?_
  rintro e wb ⟨rfl, vb, Sb, fb⟩
  go_wp2
  go_returns
  exact ⟨rfl, vb, by rw [← List.append_assoc]; exact Sb, ((Fr.of GB).trans fa).trans fb⟩
set_option maxHeartbeats 2000000 in
theorem lk_split2 (six : Bool) (x k a b : Nat) (hA : AL six x (k + 1)) (ha : a < 2 ^ wideN six) (hb : b < 2 ^ wideN six) (h0 : ¬ x + (2 ^ (k + 1) - 1) < a) (h1 : ¬ b < x) (h2 : ¬ x < a) (h3 : b < x + (2 ^ (k + 1) - 1)) (l1 l2 : List PT) (bF bL bO bK base : Nat) 
    (K1 : Hid (∀ (W : World) (v : Value) (l : List PT), LookSt six a b bF bL bO bK base W v l → l.length + l1.length ≤ 1000000000 → Calls Tryd.prog 39 #[.agg #[.bool six, .int .u64 (aH x), .int .u64 (aL x), .int .i64 ((wideN six - k : Nat) : Int)], .pointer (some ⟨bF, 0, none⟩), .pointer (some ⟨bL, 0, none⟩), .pointer (some ⟨bO, 0, none⟩), .pointer (some ⟨bK, 0, none⟩)] W fun e w' => e = .returned (.tuple #[]) ∧ ∃ v', LookSt six a b bF bL bO bK base w' v' (l ++ l1) ∧ Fr bO v W v' w'))
    (K2 : Hid (∀ (W : World) (v : Value) (l : List PT), LookSt six a b bF bL bO bK base W v l → l.length + l2.length ≤ 1000000000 → Calls Tryd.prog 39 #[.agg #[.bool six, .int .u64 (aH (x + 2 ^ k)), .int .u64 (aL (x + 2 ^ k)), .int .i64 ((wideN six - k : Nat) : Int)], .pointer (some ⟨bF, 0, none⟩), .pointer (some ⟨bL, 0, none⟩), .pointer (some ⟨bO, 0, none⟩), .pointer (some ⟨bK, 0, none⟩)] W fun e w' => e = .returned (.tuple #[]) ∧ ∃ v', LookSt six a b bF bL bO bK base w' v' (l ++ l2) ∧ Fr bO v W v' w'))
    (w : World) (v : Value) (l : List PT) (St : LookSt six a b bF bL bO bK base w v l) (hlen : l.length + ((l1 ++ l2)).length ≤ 1000000000) :
    Calls Tryd.prog 39 #[.agg #[.bool six, .int .u64 (aH x), .int .u64 (aL x), .int .i64 ((wideN six - (k + 1) : Nat) : Int)], .pointer (some ⟨bF, 0, none⟩), .pointer (some ⟨bL, 0, none⟩), .pointer (some ⟨bO, 0, none⟩), .pointer (some ⟨bK, 0, none⟩)] w fun e w' => e = .returned (.tuple #[]) ∧ ∃ v', LookSt six a b bF bL bO bK base w' v' (l ++ (l1 ++ l2)) ∧ Fr bO v w v' w' := by
  have hx := hA.lt
  have he : x + (2 ^ (k + 1) - 1) < 2 ^ wideN six := by have := hA.2.1; have := pow_one (k + 1); omega
  have L0 := Lib.hid (refLess_calls six (x + (2 ^ (k + 1) - 1)) a false he ha (decide_eq_false h0))
  have L1 := Lib.hid (refLess_calls six b x false hb hx (decide_eq_false h1))
  have L2 := Lib.hid (refLess_calls six x a false hx ha (decide_eq_false h2))
  have L3 := Lib.hid (refLess_calls six b (x + (2 ^ (k + 1) - 1)) true hb he (decide_eq_true h3))
  have HH := Lib.hid (refHalves_al hA)
  have Ffi := Lib.hid St.hF
  have Fla := Lib.hid St.hL
  have HSt := Lib.hid St
  clear St
  go_enter Tryd.func39, Tryd.ntmps39
  go_wp2_with fail
  refine (refSpan_al hA _).mono ?_
  rintro e w1 ⟨rfl, hb1⟩
  have b1 := thenBelow (show Below w.heap.size w _ from (by first | exact Below.refl _ _ | exact (Below.refl _ _).alloc (Nat.le_refl _) _ | exact ((Below.refl _ _).alloc (Nat.le_refl _) _).alloc (by simp) _ | exact (((Below.refl _ _).alloc (Nat.le_refl _) _).alloc (by simp) _).alloc (by simp; omega) _)) hb1
  have Ffi := Lib.hid (Ffi.out.via (by first | exact Below.refl _ _ | exact (Below.refl _ _).alloc (Nat.le_refl _) _ | exact ((Below.refl _ _).alloc (Nat.le_refl _) _).alloc (by simp) _ | exact (((Below.refl _ _).alloc (Nat.le_refl _) _).alloc (by simp) _).alloc (by simp; omega) _) hb1)
  have Fla := Lib.hid (Fla.out.via (by first | exact Below.refl _ _ | exact (Below.refl _ _).alloc (Nat.le_refl _) _ | exact ((Below.refl _ _).alloc (Nat.le_refl _) _).alloc (by simp) _ | exact (((Below.refl _ _).alloc (Nat.le_refl _) _).alloc (by simp) _).alloc (by simp; omega) _) hb1)
  have Gp := (PreAt.new (w) six (aH x) (aL x) ((wideN six - (k + 1) : Nat) : Int) 44).via (by first | exact Below.refl _ _ | exact (Below.refl _ _).alloc (Nat.le_refl _) _ | exact ((Below.refl _ _).alloc (Nat.le_refl _) _).alloc (by simp) _ | exact (((Below.refl _ _).alloc (Nat.le_refl _) _).alloc (by simp) _).alloc (by simp; omega) _) hb1
  try simp only [World.size_alloc] at Gp
  have Fp := Lib.hid Gp
  clear Gp
  clear hb1
  obtain ⟨fi_0, fi_1, fi_2, fi_l⟩ := Ffi.out
  have fi_m := Nat.lt_succ_of_lt fi_l
  try simp only [Nat.succ_eq_add_one, Nat.add_lt_add_iff_right] at fi_m
  go_wp2_with fail
  refine (L0.out _).mono ?_
  rintro e w2 ⟨rfl, hb2⟩
  have b2 := thenBelow (thenBelow b1 (by first | exact Below.refl _ _ | exact (Below.refl _ _).alloc (Nat.le_refl _) _ | exact ((Below.refl _ _).alloc (Nat.le_refl _) _).alloc (by simp) _ | exact (((Below.refl _ _).alloc (Nat.le_refl _) _).alloc (by simp) _).alloc (by simp; omega) _)) hb2
  clear fi_0 fi_1 fi_2 fi_l fi_m
  have Ffi := Lib.hid (Ffi.out.via (by first | exact Below.refl _ _ | exact (Below.refl _ _).alloc (Nat.le_refl _) _ | exact ((Below.refl _ _).alloc (Nat.le_refl _) _).alloc (by simp) _ | exact (((Below.refl _ _).alloc (Nat.le_refl _) _).alloc (by simp) _).alloc (by simp; omega) _) hb2)
  have Fla := Lib.hid (Fla.out.via (by first | exact Below.refl _ _ | exact (Below.refl _ _).alloc (Nat.le_refl _) _ | exact ((Below.refl _ _).alloc (Nat.le_refl _) _).alloc (by simp) _ | exact (((Below.refl _ _).alloc (Nat.le_refl _) _).alloc (by simp) _).alloc (by simp; omega) _) hb2)
  have Fp := Lib.hid (Fp.out.via (by first | exact Below.refl _ _ | exact (Below.refl _ _).alloc (Nat.le_refl _) _ | exact ((Below.refl _ _).alloc (Nat.le_refl _) _).alloc (by simp) _ | exact (((Below.refl _ _).alloc (Nat.le_refl _) _).alloc (by simp) _).alloc (by simp; omega) _) hb2)
  have Glo := (AddrAt.new (w1) six (aH x) (aL x) 24).via (by first | exact Below.refl _ _ | exact (Below.refl _ _).alloc (Nat.le_refl _) _ | exact ((Below.refl _ _).alloc (Nat.le_refl _) _).alloc (by simp) _ | exact (((Below.refl _ _).alloc (Nat.le_refl _) _).alloc (by simp) _).alloc (by simp; omega) _) hb2
  try simp only [World.size_alloc] at Glo
  have Flo := Lib.hid Glo
  clear Glo
  have Ghi := (AddrAt.new ((w1.alloc (.cells #[.bool six, .int .u64 (aH x), .int .u64 (aL x)] 24))) six (aH (x + (2 ^ (k + 1) - 1))) (aL (x + (2 ^ (k + 1) - 1))) 24).via (by first | exact Below.refl _ _ | exact (Below.refl _ _).alloc (Nat.le_refl _) _ | exact ((Below.refl _ _).alloc (Nat.le_refl _) _).alloc (by simp) _ | exact (((Below.refl _ _).alloc (Nat.le_refl _) _).alloc (by simp) _).alloc (by simp; omega) _) hb2
  try simp only [World.size_alloc] at Ghi
  have Fhi := Lib.hid Ghi
  clear Ghi
  clear hb2 b1
  obtain ⟨la_0, la_1, la_2, la_l⟩ := Fla.out
  have la_m := Nat.lt_succ_of_lt la_l
  try simp only [Nat.succ_eq_add_one, Nat.add_lt_add_iff_right] at la_m
  obtain ⟨lo_0, lo_1, lo_2, lo_l⟩ := Flo.out
  have lo_m := Nat.lt_succ_of_lt lo_l
  try simp only [Nat.succ_eq_add_one, Nat.add_lt_add_iff_right] at lo_m
  go_wp2_with fail
  refine (L1.out _).mono ?_
  rintro e w3 ⟨rfl, hb3⟩
  have b3 := thenBelow (thenBelow b2 (by first | exact Below.refl _ _ | exact (Below.refl _ _).alloc (Nat.le_refl _) _ | exact ((Below.refl _ _).alloc (Nat.le_refl _) _).alloc (by simp) _ | exact (((Below.refl _ _).alloc (Nat.le_refl _) _).alloc (by simp) _).alloc (by simp; omega) _)) hb3
  clear la_0 la_1 la_2 la_l la_m lo_0 lo_1 lo_2 lo_l lo_m
  have Ffi := Lib.hid (Ffi.out.via (by first | exact Below.refl _ _ | exact (Below.refl _ _).alloc (Nat.le_refl _) _ | exact ((Below.refl _ _).alloc (Nat.le_refl _) _).alloc (by simp) _ | exact (((Below.refl _ _).alloc (Nat.le_refl _) _).alloc (by simp) _).alloc (by simp; omega) _) hb3)
  have Fla := Lib.hid (Fla.out.via (by first | exact Below.refl _ _ | exact (Below.refl _ _).alloc (Nat.le_refl _) _ | exact ((Below.refl _ _).alloc (Nat.le_refl _) _).alloc (by simp) _ | exact (((Below.refl _ _).alloc (Nat.le_refl _) _).alloc (by simp) _).alloc (by simp; omega) _) hb3)
  have Fp := Lib.hid (Fp.out.via (by first | exact Below.refl _ _ | exact (Below.refl _ _).alloc (Nat.le_refl _) _ | exact ((Below.refl _ _).alloc (Nat.le_refl _) _).alloc (by simp) _ | exact (((Below.refl _ _).alloc (Nat.le_refl _) _).alloc (by simp) _).alloc (by simp; omega) _) hb3)
  have Flo := Lib.hid (Flo.out.via (by first | exact Below.refl _ _ | exact (Below.refl _ _).alloc (Nat.le_refl _) _ | exact ((Below.refl _ _).alloc (Nat.le_refl _) _).alloc (by simp) _ | exact (((Below.refl _ _).alloc (Nat.le_refl _) _).alloc (by simp) _).alloc (by simp; omega) _) hb3)
  have Fhi := Lib.hid (Fhi.out.via (by first | exact Below.refl _ _ | exact (Below.refl _ _).alloc (Nat.le_refl _) _ | exact ((Below.refl _ _).alloc (Nat.le_refl _) _).alloc (by simp) _ | exact (((Below.refl _ _).alloc (Nat.le_refl _) _).alloc (by simp) _).alloc (by simp; omega) _) hb3)
  clear hb3 b2
  obtain ⟨lo_0, lo_1, lo_2, lo_l⟩ := Flo.out
  have lo_m := Nat.lt_succ_of_lt lo_l
  try simp only [Nat.succ_eq_add_one, Nat.add_lt_add_iff_right] at lo_m
  obtain ⟨fi_0, fi_1, fi_2, fi_l⟩ := Ffi.out
  have fi_m := Nat.lt_succ_of_lt fi_l
  try simp only [Nat.succ_eq_add_one, Nat.add_lt_add_iff_right] at fi_m
  go_wp2_with fail
  refine (L2.out _).mono ?_
  rintro e w4 ⟨rfl, hb4⟩
  have b4 := thenBelow (thenBelow b3 (by first | exact Below.refl _ _ | exact (Below.refl _ _).alloc (Nat.le_refl _) _ | exact ((Below.refl _ _).alloc (Nat.le_refl _) _).alloc (by simp) _ | exact (((Below.refl _ _).alloc (Nat.le_refl _) _).alloc (by simp) _).alloc (by simp; omega) _)) hb4
  clear lo_0 lo_1 lo_2 lo_l lo_m fi_0 fi_1 fi_2 fi_l fi_m
  have Ffi := Lib.hid (Ffi.out.via (by first | exact Below.refl _ _ | exact (Below.refl _ _).alloc (Nat.le_refl _) _ | exact ((Below.refl _ _).alloc (Nat.le_refl _) _).alloc (by simp) _ | exact (((Below.refl _ _).alloc (Nat.le_refl _) _).alloc (by simp) _).alloc (by simp; omega) _) hb4)
  have Fla := Lib.hid (Fla.out.via (by first | exact Below.refl _ _ | exact (Below.refl _ _).alloc (Nat.le_refl _) _ | exact ((Below.refl _ _).alloc (Nat.le_refl _) _).alloc (by simp) _ | exact (((Below.refl _ _).alloc (Nat.le_refl _) _).alloc (by simp) _).alloc (by simp; omega) _) hb4)
  have Fp := Lib.hid (Fp.out.via (by first | exact Below.refl _ _ | exact (Below.refl _ _).alloc (Nat.le_refl _) _ | exact ((Below.refl _ _).alloc (Nat.le_refl _) _).alloc (by simp) _ | exact (((Below.refl _ _).alloc (Nat.le_refl _) _).alloc (by simp) _).alloc (by simp; omega) _) hb4)
  have Flo := Lib.hid (Flo.out.via (by first | exact Below.refl _ _ | exact (Below.refl _ _).alloc (Nat.le_refl _) _ | exact ((Below.refl _ _).alloc (Nat.le_refl _) _).alloc (by simp) _ | exact (((Below.refl _ _).alloc (Nat.le_refl _) _).alloc (by simp) _).alloc (by simp; omega) _) hb4)
  have Fhi := Lib.hid (Fhi.out.via (by first | exact Below.refl _ _ | exact (Below.refl _ _).alloc (Nat.le_refl _) _ | exact ((Below.refl _ _).alloc (Nat.le_refl _) _).alloc (by simp) _ | exact (((Below.refl _ _).alloc (Nat.le_refl _) _).alloc (by simp) _).alloc (by simp; omega) _) hb4)
  clear hb4 b3
  obtain ⟨la_0, la_1, la_2, la_l⟩ := Fla.out
  have la_m := Nat.lt_succ_of_lt la_l
  try simp only [Nat.succ_eq_add_one, Nat.add_lt_add_iff_right] at la_m
  obtain ⟨hi_0, hi_1, hi_2, hi_l⟩ := Fhi.out
  have hi_m := Nat.lt_succ_of_lt hi_l
  try simp only [Nat.succ_eq_add_one, Nat.add_lt_add_iff_right] at hi_m
  go_wp2_with fail
  refine (L3.out _).mono ?_
  rintro e w5 ⟨rfl, hb5⟩
  have b5 := thenBelow (thenBelow b4 (by first | exact Below.refl _ _ | exact (Below.refl _ _).alloc (Nat.le_refl _) _ | exact ((Below.refl _ _).alloc (Nat.le_refl _) _).alloc (by simp) _ | exact (((Below.refl _ _).alloc (Nat.le_refl _) _).alloc (by simp) _).alloc (by simp; omega) _)) hb5
  clear la_0 la_1 la_2 la_l la_m hi_0 hi_1 hi_2 hi_l hi_m
  have Ffi := Lib.hid (Ffi.out.via (by first | exact Below.refl _ _ | exact (Below.refl _ _).alloc (Nat.le_refl _) _ | exact ((Below.refl _ _).alloc (Nat.le_refl _) _).alloc (by simp) _ | exact (((Below.refl _ _).alloc (Nat.le_refl _) _).alloc (by simp) _).alloc (by simp; omega) _) hb5)
  have Fla := Lib.hid (Fla.out.via (by first | exact Below.refl _ _ | exact (Below.refl _ _).alloc (Nat.le_refl _) _ | exact ((Below.refl _ _).alloc (Nat.le_refl _) _).alloc (by simp) _ | exact (((Below.refl _ _).alloc (Nat.le_refl _) _).alloc (by simp) _).alloc (by simp; omega) _) hb5)
  have Fp := Lib.hid (Fp.out.via (by first | exact Below.refl _ _ | exact (Below.refl _ _).alloc (Nat.le_refl _) _ | exact ((Below.refl _ _).alloc (Nat.le_refl _) _).alloc (by simp) _ | exact (((Below.refl _ _).alloc (Nat.le_refl _) _).alloc (by simp) _).alloc (by simp; omega) _) hb5)
  have Flo := Lib.hid (Flo.out.via (by first | exact Below.refl _ _ | exact (Below.refl _ _).alloc (Nat.le_refl _) _ | exact ((Below.refl _ _).alloc (Nat.le_refl _) _).alloc (by simp) _ | exact (((Below.refl _ _).alloc (Nat.le_refl _) _).alloc (by simp) _).alloc (by simp; omega) _) hb5)
  have Fhi := Lib.hid (Fhi.out.via (by first | exact Below.refl _ _ | exact (Below.refl _ _).alloc (Nat.le_refl _) _ | exact ((Below.refl _ _).alloc (Nat.le_refl _) _).alloc (by simp) _ | exact (((Below.refl _ _).alloc (Nat.le_refl _) _).alloc (by simp) _).alloc (by simp; omega) _) hb5)
  clear hb5 b4
  obtain ⟨p_0, p_1, p_2, p_3, p_l⟩ := Fp.out
  have p_m := Nat.lt_succ_of_lt p_l
  try simp only [Nat.succ_eq_add_one, Nat.add_lt_add_iff_right] at p_m
  go_wp2_with fail
  refine (HH.out _).mono ?_
  rintro e w6 ⟨rfl, hb6⟩
  have b6 := thenBelow (thenBelow b5 (by first | exact Below.refl _ _ | exact (Below.refl _ _).alloc (Nat.le_refl _) _ | exact ((Below.refl _ _).alloc (Nat.le_refl _) _).alloc (by simp) _ | exact (((Below.refl _ _).alloc (Nat.le_refl _) _).alloc (by simp) _).alloc (by simp; omega) _)) hb6
  clear p_0 p_1 p_2 p_3 p_l p_m
  clear Ffi
  clear Fla
  clear Fp
  clear Flo
  clear Fhi
  clear hb6 b5
  have S1 := (HSt.out.keep b6).keep (((Below.refl _ w6).alloc (Nat.le_refl _) (.cells #[.bool six, .int .u64 (aH x), .int .u64 (aL x), .int .i64 ((wideN six - k : Nat) : Int)] 44)).alloc (by simp) (.cells #[.bool six, .int .u64 (aH (x + 2 ^ k)), .int .u64 (aL (x + 2 ^ k)), .int .i64 ((wideN six - k : Nat) : Int)] 44))
  have hK := (HSt.out.keep b6).hK
  have lKw : bK < w6.heap.size := Nat.lt_of_lt_of_le (HSt.out.keep b6).lK (HSt.out.keep b6).lB
  have hn2 : l.length + l1.length ≤ 1000000000 ∧ (l ++ l1).length + l2.length ≤ 1000000000 := by rw [List.length_append] at hlen ⊢; omega
  have GU := PreAt.new (w6.alloc (.cells #[.bool six, .int .u64 (aH x), .int .u64 (aL x), .int .i64 ((wideN six - k : Nat) : Int)] 44)) six (aH (x + 2 ^ k)) (aL (x + 2 ^ k)) ((wideN six - k : Nat) : Int) 44
  have GB := thenBelow b6 (((Below.refl _ w6).alloc (Nat.le_refl _) (.cells #[.bool six, .int .u64 (aH x), .int .u64 (aL x), .int .i64 ((wideN six - k : Nat) : Int)] 44)).alloc (by simp) (.cells #[.bool six, .int .u64 (aH (x + 2 ^ k)), .int .u64 (aL (x + 2 ^ k)), .int .i64 ((wideN six - k : Nat) : Int)] 44))
  have own := (HSt.out.keep b6).own
  have hU1 : w6.heap.size + 1 ≠ bO := by have := S1.lO; have := (HSt.out.keep b6).lB; omega
  have hU2 : v.ownBlock ≠ some (w6.heap.size + 1) := fun e => by have := (own.lt _ e).2; omega
  rw [World.size_alloc] at GU
  go_wp2_with fail
  refine (K1.out _ v l S1 hn2.1).mono ?_
  rintro e wa ⟨rfl, va, Sa, fa⟩
  have GU2 := GU.fr fa hU1 hU2
  have hKa := Sa.hK
  obtain ⟨u0, u1, u2, u3, _⟩ := GU2
  clear GU hK own
  go_wp2_with fail
  refine (K2.out wa va (l ++ l1) Sa hn2.2).mono ?_
  rintro e wb ⟨rfl, vb, Sb, fb⟩
  go_wp2
  go_returns
  exact ⟨rfl, vb, by rw [← List.append_assoc]; exact Sb, ((Fr.of GB).trans fa).trans fb⟩
end Go.Proofs.YtojdlhiibffnfaaDoor

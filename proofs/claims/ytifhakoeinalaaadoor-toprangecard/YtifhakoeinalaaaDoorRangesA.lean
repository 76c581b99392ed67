/-
  cidr.Range, way by way.
-/
import Derived.Test.YtifhakoeinalaaaDoorG5
import Derived.Test.YtifhakoeinalaaaDoorLaidF
import Derived.Laws.EntriesVeiled
namespace Go.Proofs.YtifhakoeinalaaaDoor
open Go.RowKit
set_option linter.unusedVariables false
set_option linter.unusedSimpArgs false

theorem rangeTop_calls (six : Bool) (a b : Nat) (w : World) :
    Calls Tryd.prog 25 #[.agg #[.bool six, .int .u64 0, .int .u64 0, .int .i64 0], .agg #[.bool six, .int .u64 (aH a), .int .u64 (aL a)], .agg #[.bool six, .int .u64 (aH b), .int .u64 (aL b)]] w (PresOut (cn six (fromTo a b) (wideN six) 0) w) := by
  have := rangeW_calls six a b (wideN six) 0 (AL.top six) (Nat.le_trans (cn_range six a b _ _ (Nat.le_refl _)) (by decide)) w
  rw [Nat.sub_self] at this
  exact this
theorem famCells {w : World} (h : FamAt w) : (w.cell? ⟨0, 0, none⟩ = some (.bool false) ∧ w.cell? ⟨0, 1, none⟩ = some (.int .u64 0) ∧ w.cell? ⟨0, 2, none⟩ = some (.int .u64 0) ∧ w.cell? ⟨0, 3, none⟩ = some (.int .i64 0)) ∧
  (w.cell? ⟨0, 4, none⟩ = some (.bool true) ∧ w.cell? ⟨0, 5, none⟩ = some (.int .u64 0) ∧ w.cell? ⟨0, 6, none⟩ = some (.int .u64 0) ∧ w.cell? ⟨0, 7, none⟩ = some (.int .i64 0)) ∧ 0 < w.heap.size := h
theorem mayN (six : Bool) (x : Nat) (hx : x < 2 ^ 128) (b : Bool) (hb : decide (x < 2 ^ wideN six) = b) (w : World) :
    Calls Tryd.prog 21 #[.agg #[.bool six, .int .u64 (aH x), .int .u64 (aL x)]] w fun e w' => e = .returned (.bool b) ∧ Below w.heap.size w w' :=
  (may_num six x hx b hb w).mono fun e w' ⟨he, hw⟩ => ⟨he, by subst hw; go_grown⟩
theorem familyB (six : Bool) (h l : Int) (i : Int) (hi : (if six then 1 else 0) = i) (w : World) :
    Calls Tryd.prog 26 #[.agg #[.bool six, .int .u64 h, .int .u64 l]] w fun e w' => e = .returned (.int .i64 i) ∧ Below w.heap.size w w' :=
  (family_calls six h l w).mono fun e w' ⟨he, hw⟩ => ⟨by rw [he, hi], by subst hw; go_grown⟩
set_option maxHeartbeats 2000000 in
theorem range_form1 (s1 s2 : Bool) (x1 x2 : Nat) (hx1 : x1 < 2 ^ 128) (hx2 : x2 < 2 ^ 128) (h : ¬ x1 < 2 ^ wideN s1) (w : World) :
    Calls Tryd.prog 13 #[.agg #[.bool s1, .int .u64 (aH x1), .int .u64 (aL x1)], .agg #[.bool s2, .int .u64 (aH x2), .int .u64 (aL x2)]] w (PresOutE [] 4 w) := by
  have M1 := Lib.hid (mayN s1 x1 hx1 false (decide_eq_false h))
  go_enter Tryd.func13, Tryd.ntmps13
  go_wp2_with fail
  refine (M1.out _).mono ?_
  rintro e w1 ⟨rfl, hb1⟩
  have b1 := thenBelow (show Below w.heap.size w _ from (by first | exact Below.refl _ _ | exact (Below.refl _ _).alloc (Nat.le_refl _) _ | exact ((Below.refl _ _).alloc (Nat.le_refl _) _).alloc (by simp) _ | exact (((Below.refl _ _).alloc (Nat.le_refl _) _).alloc (by simp) _).alloc (by simp; omega) _)) hb1
  have Gfi := (AddrAt.new (w) s1 (aH x1) (aL x1) 31).via (by first | exact Below.refl _ _ | exact (Below.refl _ _).alloc (Nat.le_refl _) _ | exact ((Below.refl _ _).alloc (Nat.le_refl _) _).alloc (by simp) _ | exact (((Below.refl _ _).alloc (Nat.le_refl _) _).alloc (by simp) _).alloc (by simp; omega) _) hb1
  try simp only [World.size_alloc] at Gfi
  have Ffi := Lib.hid Gfi
  clear Gfi
  have Gla := (AddrAt.new ((w.alloc (.cells #[.bool s1, .int .u64 (aH x1), .int .u64 (aL x1)] 31))) s2 (aH x2) (aL x2) 31).via (by first | exact Below.refl _ _ | exact (Below.refl _ _).alloc (Nat.le_refl _) _ | exact ((Below.refl _ _).alloc (Nat.le_refl _) _).alloc (by simp) _ | exact (((Below.refl _ _).alloc (Nat.le_refl _) _).alloc (by simp) _).alloc (by simp; omega) _) hb1
  try simp only [World.size_alloc] at Gla
  have Fla := Lib.hid Gla
  clear Gla
  clear hb1
  go_wp2
  go_returns
  exact ⟨_, rfl, owned_nil _ _, (thenBelow b1 (by first | exact Below.refl _ _ | exact (Below.refl _ _).alloc (Nat.le_refl _) _ | exact ((Below.refl _ _).alloc (Nat.le_refl _) _).alloc (by simp) _ | exact (((Below.refl _ _).alloc (Nat.le_refl _) _).alloc (by simp) _).alloc (by simp; omega) _))⟩
set_option maxHeartbeats 2000000 in
theorem range_form2 (s1 s2 : Bool) (x1 x2 : Nat) (hx1 : x1 < 2 ^ 128) (hx2 : x2 < 2 ^ 128) (h0 : x1 < 2 ^ wideN s1) (h : ¬ x2 < 2 ^ wideN s2) (w : World) :
    Calls Tryd.prog 13 #[.agg #[.bool s1, .int .u64 (aH x1), .int .u64 (aL x1)], .agg #[.bool s2, .int .u64 (aH x2), .int .u64 (aL x2)]] w (PresOutE [] 4 w) := by
  have M1 := Lib.hid (mayN s1 x1 hx1 true (decide_eq_true h0))
  have M2 := Lib.hid (mayN s2 x2 hx2 false (decide_eq_false h))
  go_enter Tryd.func13, Tryd.ntmps13
  go_wp2_with fail
  refine (M1.out _).mono ?_
  rintro e w1 ⟨rfl, hb1⟩
  have b1 := thenBelow (show Below w.heap.size w _ from (by first | exact Below.refl _ _ | exact (Below.refl _ _).alloc (Nat.le_refl _) _ | exact ((Below.refl _ _).alloc (Nat.le_refl _) _).alloc (by simp) _ | exact (((Below.refl _ _).alloc (Nat.le_refl _) _).alloc (by simp) _).alloc (by simp; omega) _)) hb1
  have Gfi := (AddrAt.new (w) s1 (aH x1) (aL x1) 31).via (by first | exact Below.refl _ _ | exact (Below.refl _ _).alloc (Nat.le_refl _) _ | exact ((Below.refl _ _).alloc (Nat.le_refl _) _).alloc (by simp) _ | exact (((Below.refl _ _).alloc (Nat.le_refl _) _).alloc (by simp) _).alloc (by simp; omega) _) hb1
  try simp only [World.size_alloc] at Gfi
  have Ffi := Lib.hid Gfi
  clear Gfi
  have Gla := (AddrAt.new ((w.alloc (.cells #[.bool s1, .int .u64 (aH x1), .int .u64 (aL x1)] 31))) s2 (aH x2) (aL x2) 31).via (by first | exact Below.refl _ _ | exact (Below.refl _ _).alloc (Nat.le_refl _) _ | exact ((Below.refl _ _).alloc (Nat.le_refl _) _).alloc (by simp) _ | exact (((Below.refl _ _).alloc (Nat.le_refl _) _).alloc (by simp) _).alloc (by simp; omega) _) hb1
  try simp only [World.size_alloc] at Gla
  have Fla := Lib.hid Gla
  clear Gla
  clear hb1
  obtain ⟨la_0, la_1, la_2, la_l⟩ := Fla.out
  have la_m := Nat.lt_succ_of_lt la_l
  try simp only [Nat.succ_eq_add_one, Nat.add_lt_add_iff_right] at la_m
  go_wp2_with fail
  refine (M2.out _).mono ?_
  rintro e w2 ⟨rfl, hb2⟩
  have b2 := thenBelow (thenBelow b1 (by first | exact Below.refl _ _ | exact (Below.refl _ _).alloc (Nat.le_refl _) _ | exact ((Below.refl _ _).alloc (Nat.le_refl _) _).alloc (by simp) _ | exact (((Below.refl _ _).alloc (Nat.le_refl _) _).alloc (by simp) _).alloc (by simp; omega) _)) hb2
  clear la_0 la_1 la_2 la_l la_m
  have Ffi := Lib.hid (Ffi.out.via (by first | exact Below.refl _ _ | exact (Below.refl _ _).alloc (Nat.le_refl _) _ | exact ((Below.refl _ _).alloc (Nat.le_refl _) _).alloc (by simp) _ | exact (((Below.refl _ _).alloc (Nat.le_refl _) _).alloc (by simp) _).alloc (by simp; omega) _) hb2)
  have Fla := Lib.hid (Fla.out.via (by first | exact Below.refl _ _ | exact (Below.refl _ _).alloc (Nat.le_refl _) _ | exact ((Below.refl _ _).alloc (Nat.le_refl _) _).alloc (by simp) _ | exact (((Below.refl _ _).alloc (Nat.le_refl _) _).alloc (by simp) _).alloc (by simp; omega) _) hb2)
  clear hb2 b1
  go_wp2
  go_returns
  exact ⟨_, rfl, owned_nil _ _, (thenBelow b2 (by first | exact Below.refl _ _ | exact (Below.refl _ _).alloc (Nat.le_refl _) _ | exact ((Below.refl _ _).alloc (Nat.le_refl _) _).alloc (by simp) _ | exact (((Below.refl _ _).alloc (Nat.le_refl _) _).alloc (by simp) _).alloc (by simp; omega) _))⟩
set_option maxHeartbeats 2000000 in
theorem range_fam (s1 s2 : Bool) (x1 x2 : Nat) (hx1 : x1 < 2 ^ 128) (hx2 : x2 < 2 ^ 128) (h0 : x1 < 2 ^ wideN s1) (h : x2 < 2 ^ wideN s2) (hs : s1 ≠ s2) (w : World) :
    Calls Tryd.prog 13 #[.agg #[.bool s1, .int .u64 (aH x1), .int .u64 (aL x1)], .agg #[.bool s2, .int .u64 (aH x2), .int .u64 (aL x2)]] w (PresOutE [] 6 w) := by
  have M1 := Lib.hid (mayN s1 x1 hx1 true (decide_eq_true h0))
  have M2 := Lib.hid (mayN s2 x2 hx2 true (decide_eq_true h))
  have q1 : (s1 == s2) = false := by simpa using hs
  have q2 : (s1 != s2) = true := by simp [bne, q1]
  have q3 : (!s1 == s2) = true := by cases s1 <;> cases s2 <;> simp_all
  go_enter Tryd.func13, Tryd.ntmps13
  go_wp2_with fail
  refine (M1.out _).mono ?_
  rintro e w1 ⟨rfl, hb1⟩
  have b1 := thenBelow (show Below w.heap.size w _ from (by first | exact Below.refl _ _ | exact (Below.refl _ _).alloc (Nat.le_refl _) _ | exact ((Below.refl _ _).alloc (Nat.le_refl _) _).alloc (by simp) _ | exact (((Below.refl _ _).alloc (Nat.le_refl _) _).alloc (by simp) _).alloc (by simp; omega) _)) hb1
  have Gfi := (AddrAt.new (w) s1 (aH x1) (aL x1) 31).via (by first | exact Below.refl _ _ | exact (Below.refl _ _).alloc (Nat.le_refl _) _ | exact ((Below.refl _ _).alloc (Nat.le_refl _) _).alloc (by simp) _ | exact (((Below.refl _ _).alloc (Nat.le_refl _) _).alloc (by simp) _).alloc (by simp; omega) _) hb1
  try simp only [World.size_alloc] at Gfi
  have Ffi := Lib.hid Gfi
  clear Gfi
  have Gla := (AddrAt.new ((w.alloc (.cells #[.bool s1, .int .u64 (aH x1), .int .u64 (aL x1)] 31))) s2 (aH x2) (aL x2) 31).via (by first | exact Below.refl _ _ | exact (Below.refl _ _).alloc (Nat.le_refl _) _ | exact ((Below.refl _ _).alloc (Nat.le_refl _) _).alloc (by simp) _ | exact (((Below.refl _ _).alloc (Nat.le_refl _) _).alloc (by simp) _).alloc (by simp; omega) _) hb1
  try simp only [World.size_alloc] at Gla
  have Fla := Lib.hid Gla
  clear Gla
  clear hb1
  obtain ⟨la_0, la_1, la_2, la_l⟩ := Fla.out
  have la_m := Nat.lt_succ_of_lt la_l
  try simp only [Nat.succ_eq_add_one, Nat.add_lt_add_iff_right] at la_m
  go_wp2_with fail
  refine (M2.out _).mono ?_
  rintro e w2 ⟨rfl, hb2⟩
  have b2 := thenBelow (thenBelow b1 (by first | exact Below.refl _ _ | exact (Below.refl _ _).alloc (Nat.le_refl _) _ | exact ((Below.refl _ _).alloc (Nat.le_refl _) _).alloc (by simp) _ | exact (((Below.refl _ _).alloc (Nat.le_refl _) _).alloc (by simp) _).alloc (by simp; omega) _)) hb2
  clear la_0 la_1 la_2 la_l la_m
  have Ffi := Lib.hid (Ffi.out.via (by first | exact Below.refl _ _ | exact (Below.refl _ _).alloc (Nat.le_refl _) _ | exact ((Below.refl _ _).alloc (Nat.le_refl _) _).alloc (by simp) _ | exact (((Below.refl _ _).alloc (Nat.le_refl _) _).alloc (by simp) _).alloc (by simp; omega) _) hb2)
  have Fla := Lib.hid (Fla.out.via (by first | exact Below.refl _ _ | exact (Below.refl _ _).alloc (Nat.le_refl _) _ | exact ((Below.refl _ _).alloc (Nat.le_refl _) _).alloc (by simp) _ | exact (((Below.refl _ _).alloc (Nat.le_refl _) _).alloc (by simp) _).alloc (by simp; omega) _) hb2)
  clear hb2 b1
  obtain ⟨fi_0, fi_1, fi_2, fi_l⟩ := Ffi.out
  have fi_m := Nat.lt_succ_of_lt fi_l
  try simp only [Nat.succ_eq_add_one, Nat.add_lt_add_iff_right] at fi_m
  obtain ⟨la_0, la_1, la_2, la_l⟩ := Fla.out
  have la_m := Nat.lt_succ_of_lt la_l
  try simp only [Nat.succ_eq_add_one, Nat.add_lt_add_iff_right] at la_m
  go_wp2
  go_returns
  exact ⟨_, rfl, owned_nil _ _, (thenBelow b2 (by first | exact Below.refl _ _ | exact (Below.refl _ _).alloc (Nat.le_refl _) _ | exact ((Below.refl _ _).alloc (Nat.le_refl _) _).alloc (by simp) _ | exact (((Below.refl _ _).alloc (Nat.le_refl _) _).alloc (by simp) _).alloc (by simp; omega) _))⟩
set_option maxHeartbeats 2000000 in
theorem range_rng (six : Bool) (x1 x2 : Nat) (hx1 : x1 < 2 ^ 128) (hx2 : x2 < 2 ^ 128) (h0 : x1 < 2 ^ wideN six) (h : x2 < 2 ^ wideN six) (hl : x2 < x1) (w : World) :
    Calls Tryd.prog 13 #[.agg #[.bool six, .int .u64 (aH x1), .int .u64 (aL x1)], .agg #[.bool six, .int .u64 (aH x2), .int .u64 (aL x2)]] w (PresOutE [] 2 w) := by
  have M1 := Lib.hid (mayN six x1 hx1 true (decide_eq_true h0))
  have M2 := Lib.hid (mayN six x2 hx2 true (decide_eq_true h))
  have LS := Lib.hid (less_is six six x2 x1 true (decide_eq_true hl))
  have q1 : (six == six) = true := by cases six <;> rfl
  have q2 : (six != six) = false := by cases six <;> rfl
  have q3 : (!six == six) = false := by cases six <;> rfl
  go_enter Tryd.func13, Tryd.ntmps13
  go_wp2_with fail
  refine (M1.out _).mono ?_
  rintro e w1 ⟨rfl, hb1⟩
  have b1 := thenBelow (show Below w.heap.size w _ from (by first | exact Below.refl _ _ | exact (Below.refl _ _).alloc (Nat.le_refl _) _ | exact ((Below.refl _ _).alloc (Nat.le_refl _) _).alloc (by simp) _ | exact (((Below.refl _ _).alloc (Nat.le_refl _) _).alloc (by simp) _).alloc (by simp; omega) _)) hb1
  have Gfi := (AddrAt.new (w) six (aH x1) (aL x1) 31).via (by first | exact Below.refl _ _ | exact (Below.refl _ _).alloc (Nat.le_refl _) _ | exact ((Below.refl _ _).alloc (Nat.le_refl _) _).alloc (by simp) _ | exact (((Below.refl _ _).alloc (Nat.le_refl _) _).alloc (by simp) _).alloc (by simp; omega) _) hb1
  try simp only [World.size_alloc] at Gfi
  have Ffi := Lib.hid Gfi
  clear Gfi
  have Gla := (AddrAt.new ((w.alloc (.cells #[.bool six, .int .u64 (aH x1), .int .u64 (aL x1)] 31))) six (aH x2) (aL x2) 31).via (by first | exact Below.refl _ _ | exact (Below.refl _ _).alloc (Nat.le_refl _) _ | exact ((Below.refl _ _).alloc (Nat.le_refl _) _).alloc (by simp) _ | exact (((Below.refl _ _).alloc (Nat.le_refl _) _).alloc (by simp) _).alloc (by simp; omega) _) hb1
  try simp only [World.size_alloc] at Gla
  have Fla := Lib.hid Gla
  clear Gla
  clear hb1
  obtain ⟨la_0, la_1, la_2, la_l⟩ := Fla.out
  have la_m := Nat.lt_succ_of_lt la_l
  try simp only [Nat.succ_eq_add_one, Nat.add_lt_add_iff_right] at la_m
  go_wp2_with fail
  refine (M2.out _).mono ?_
  rintro e w2 ⟨rfl, hb2⟩
  have b2 := thenBelow (thenBelow b1 (by first | exact Below.refl _ _ | exact (Below.refl _ _).alloc (Nat.le_refl _) _ | exact ((Below.refl _ _).alloc (Nat.le_refl _) _).alloc (by simp) _ | exact (((Below.refl _ _).alloc (Nat.le_refl _) _).alloc (by simp) _).alloc (by simp; omega) _)) hb2
  clear la_0 la_1 la_2 la_l la_m
  have Ffi := Lib.hid (Ffi.out.via (by first | exact Below.refl _ _ | exact (Below.refl _ _).alloc (Nat.le_refl _) _ | exact ((Below.refl _ _).alloc (Nat.le_refl _) _).alloc (by simp) _ | exact (((Below.refl _ _).alloc (Nat.le_refl _) _).alloc (by simp) _).alloc (by simp; omega) _) hb2)
  have Fla := Lib.hid (Fla.out.via (by first | exact Below.refl _ _ | exact (Below.refl _ _).alloc (Nat.le_refl _) _ | exact ((Below.refl _ _).alloc (Nat.le_refl _) _).alloc (by simp) _ | exact (((Below.refl _ _).alloc (Nat.le_refl _) _).alloc (by simp) _).alloc (by simp; omega) _) hb2)
  clear hb2 b1
  obtain ⟨fi_0, fi_1, fi_2, fi_l⟩ := Ffi.out
  have fi_m := Nat.lt_succ_of_lt fi_l
  try simp only [Nat.succ_eq_add_one, Nat.add_lt_add_iff_right] at fi_m
  obtain ⟨la_0, la_1, la_2, la_l⟩ := Fla.out
  have la_m := Nat.lt_succ_of_lt la_l
  try simp only [Nat.succ_eq_add_one, Nat.add_lt_add_iff_right] at la_m
  go_wp2_with fail
  refine (LS.out _).mono ?_
  rintro e w3 ⟨rfl, hb3⟩
  have b3 := thenBelow (thenBelow b2 (by first | exact Below.refl _ _ | exact (Below.refl _ _).alloc (Nat.le_refl _) _ | exact ((Below.refl _ _).alloc (Nat.le_refl _) _).alloc (by simp) _ | exact (((Below.refl _ _).alloc (Nat.le_refl _) _).alloc (by simp) _).alloc (by simp; omega) _)) hb3
  clear fi_0 fi_1 fi_2 fi_l fi_m la_0 la_1 la_2 la_l la_m
  have Ffi := Lib.hid (Ffi.out.via (by first | exact Below.refl _ _ | exact (Below.refl _ _).alloc (Nat.le_refl _) _ | exact ((Below.refl _ _).alloc (Nat.le_refl _) _).alloc (by simp) _ | exact (((Below.refl _ _).alloc (Nat.le_refl _) _).alloc (by simp) _).alloc (by simp; omega) _) hb3)
  have Fla := Lib.hid (Fla.out.via (by first | exact Below.refl _ _ | exact (Below.refl _ _).alloc (Nat.le_refl _) _ | exact ((Below.refl _ _).alloc (Nat.le_refl _) _).alloc (by simp) _ | exact (((Below.refl _ _).alloc (Nat.le_refl _) _).alloc (by simp) _).alloc (by simp; omega) _) hb3)
  clear hb3 b2
  go_wp2
  go_returns
  exact ⟨_, rfl, owned_nil _ _, (thenBelow b3 (by first | exact Below.refl _ _ | exact (Below.refl _ _).alloc (Nat.le_refl _) _ | exact ((Below.refl _ _).alloc (Nat.le_refl _) _).alloc (by simp) _ | exact (((Below.refl _ _).alloc (Nat.le_refl _) _).alloc (by simp) _).alloc (by simp; omega) _))⟩
set_option maxHeartbeats 2000000 in
theorem range_ok_false (x1 x2 : Nat) (hx1 : x1 < 2 ^ 128) (hx2 : x2 < 2 ^ 128) (h0 : x1 < 2 ^ wideN false) (h : x2 < 2 ^ wideN false) (hl : ¬ x2 < x1) (w : World) (HF : FamAt w) :
    Calls Tryd.prog 13 #[.agg #[.bool false, .int .u64 (aH x1), .int .u64 (aL x1)], .agg #[.bool false, .int .u64 (aH x2), .int .u64 (aL x2)]] w (PresOutE (cn false (fromTo x1 x2) (wideN false) 0) 0 w) := by
  have M1 := Lib.hid (mayN false x1 hx1 true (decide_eq_true h0))
  have M2 := Lib.hid (mayN false x2 hx2 true (decide_eq_true h))
  have LS := Lib.hid (less_is false false x2 x1 false (decide_eq_false hl))
  have KR := Lib.hid (rangeTop_calls false x1 x2)
  have HFW := Lib.hid HF
  clear HF
  go_enter Tryd.func13, Tryd.ntmps13
  go_wp2_with fail
  refine (M1.out _).mono ?_
  rintro e w1 ⟨rfl, hb1⟩
  have b1 := thenBelow (show Below w.heap.size w _ from (by first | exact Below.refl _ _ | exact (Below.refl _ _).alloc (Nat.le_refl _) _ | exact ((Below.refl _ _).alloc (Nat.le_refl _) _).alloc (by simp) _ | exact (((Below.refl _ _).alloc (Nat.le_refl _) _).alloc (by simp) _).alloc (by simp; omega) _)) hb1
  have Gfi := (AddrAt.new (w) false (aH x1) (aL x1) 31).via (by first | exact Below.refl _ _ | exact (Below.refl _ _).alloc (Nat.le_refl _) _ | exact ((Below.refl _ _).alloc (Nat.le_refl _) _).alloc (by simp) _ | exact (((Below.refl _ _).alloc (Nat.le_refl _) _).alloc (by simp) _).alloc (by simp; omega) _) hb1
  try simp only [World.size_alloc] at Gfi
  have Ffi := Lib.hid Gfi
  clear Gfi
  have Gla := (AddrAt.new ((w.alloc (.cells #[.bool false, .int .u64 (aH x1), .int .u64 (aL x1)] 31))) false (aH x2) (aL x2) 31).via (by first | exact Below.refl _ _ | exact (Below.refl _ _).alloc (Nat.le_refl _) _ | exact ((Below.refl _ _).alloc (Nat.le_refl _) _).alloc (by simp) _ | exact (((Below.refl _ _).alloc (Nat.le_refl _) _).alloc (by simp) _).alloc (by simp; omega) _) hb1
  try simp only [World.size_alloc] at Gla
  have Fla := Lib.hid Gla
  clear Gla
  clear hb1
  obtain ⟨la_0, la_1, la_2, la_l⟩ := Fla.out
  have la_m := Nat.lt_succ_of_lt la_l
  try simp only [Nat.succ_eq_add_one, Nat.add_lt_add_iff_right] at la_m
  go_wp2_with fail
  refine (M2.out _).mono ?_
  rintro e w2 ⟨rfl, hb2⟩
  have b2 := thenBelow (thenBelow b1 (by first | exact Below.refl _ _ | exact (Below.refl _ _).alloc (Nat.le_refl _) _ | exact ((Below.refl _ _).alloc (Nat.le_refl _) _).alloc (by simp) _ | exact (((Below.refl _ _).alloc (Nat.le_refl _) _).alloc (by simp) _).alloc (by simp; omega) _)) hb2
  clear la_0 la_1 la_2 la_l la_m
  have Ffi := Lib.hid (Ffi.out.via (by first | exact Below.refl _ _ | exact (Below.refl _ _).alloc (Nat.le_refl _) _ | exact ((Below.refl _ _).alloc (Nat.le_refl _) _).alloc (by simp) _ | exact (((Below.refl _ _).alloc (Nat.le_refl _) _).alloc (by simp) _).alloc (by simp; omega) _) hb2)
  have Fla := Lib.hid (Fla.out.via (by first | exact Below.refl _ _ | exact (Below.refl _ _).alloc (Nat.le_refl _) _ | exact ((Below.refl _ _).alloc (Nat.le_refl _) _).alloc (by simp) _ | exact (((Below.refl _ _).alloc (Nat.le_refl _) _).alloc (by simp) _).alloc (by simp; omega) _) hb2)
  clear hb2 b1
  obtain ⟨fi_0, fi_1, fi_2, fi_l⟩ := Ffi.out
  have fi_m := Nat.lt_succ_of_lt fi_l
  try simp only [Nat.succ_eq_add_one, Nat.add_lt_add_iff_right] at fi_m
  obtain ⟨la_0, la_1, la_2, la_l⟩ := Fla.out
  have la_m := Nat.lt_succ_of_lt la_l
  try simp only [Nat.succ_eq_add_one, Nat.add_lt_add_iff_right] at la_m
  go_wp2_with fail
  refine (LS.out _).mono ?_
  rintro e w3 ⟨rfl, hb3⟩
  have b3 := thenBelow (thenBelow b2 (by first | exact Below.refl _ _ | exact (Below.refl _ _).alloc (Nat.le_refl _) _ | exact ((Below.refl _ _).alloc (Nat.le_refl _) _).alloc (by simp) _ | exact (((Below.refl _ _).alloc (Nat.le_refl _) _).alloc (by simp) _).alloc (by simp; omega) _)) hb3
  clear fi_0 fi_1 fi_2 fi_l fi_m la_0 la_1 la_2 la_l la_m
  have Ffi := Lib.hid (Ffi.out.via (by first | exact Below.refl _ _ | exact (Below.refl _ _).alloc (Nat.le_refl _) _ | exact ((Below.refl _ _).alloc (Nat.le_refl _) _).alloc (by simp) _ | exact (((Below.refl _ _).alloc (Nat.le_refl _) _).alloc (by simp) _).alloc (by simp; omega) _) hb3)
  have Fla := Lib.hid (Fla.out.via (by first | exact Below.refl _ _ | exact (Below.refl _ _).alloc (Nat.le_refl _) _ | exact ((Below.refl _ _).alloc (Nat.le_refl _) _).alloc (by simp) _ | exact (((Below.refl _ _).alloc (Nat.le_refl _) _).alloc (by simp) _).alloc (by simp; omega) _) hb3)
  clear hb3 b2
  have FF := HFW.out.keep b3
  have HFJ := Lib.hid FF
  have HFi := Ffi
  have HLa := Fla
  obtain ⟨f0, f1, f2, _⟩ := Ffi.out
  obtain ⟨a0, a1, a2, _⟩ := Fla.out
  obtain ⟨⟨m0, m1, m2, m3⟩, ⟨m4, m5, m6, m7⟩, ml⟩ := FF
  have hs := b3.size
  go_wp2_with fail
  go_region_held3 (fun w' => w'.cell? ⟨w.heap.size, 0, none⟩ = some (.bool false) ∧ w'.cell? ⟨w.heap.size, 1, none⟩ = some (.int .u64 (aH x1)) ∧ w'.cell? ⟨w.heap.size, 2, none⟩ = some (.int .u64 (aL x1)) ∧ w'.cell? ⟨w.heap.size + 1, 0, none⟩ = some (.bool false) ∧ w'.cell? ⟨w.heap.size + 1, 1, none⟩ = some (.int .u64 (aH x2)) ∧ w'.cell? ⟨w.heap.size + 1, 2, none⟩ = some (.int .u64 (aL x2)) ∧ w'.cell? ⟨0, 0, none⟩ = some (.bool false) ∧ w'.cell? ⟨0, 1, none⟩ = some (.int .u64 0) ∧ w'.cell? ⟨0, 2, none⟩ = some (.int .u64 0) ∧ w'.cell? ⟨0, 3, none⟩ = some (.int .i64 0))
    (first
      | (simp [go_sem, f0, f1, f2, a0, a1, a2, m0, m1, m2, m3]; done)
      | (simp [go_sem, xf0, xf1, xf2, xa0, xa1, xa2, xm0, xm1, xm2, xm3]; done)
      | (simp [go_sem, yf0, yf1, yf2, ya0, ya1, ya2, ym0, ym1, ym2, ym3]; done)
      | fail)
    (first
      | (go_at_call 26; with_reducible refine (familyB false _ _ 0 rfl _).mono ?_; rintro e wa ⟨rfl, ba⟩; have bd := thenBelow b3.drew ba; obtain ⟨xf0, xf1, xf2, _⟩ := addrCells (HFi.out.via (Below.refl _ _).drew ba); obtain ⟨xa0, xa1, xa2, _⟩ := addrCells (HLa.out.via (Below.refl _ _).drew ba); obtain ⟨⟨xm0, xm1, xm2, xm3⟩, ⟨xm4, xm5, xm6, xm7⟩, _⟩ := famCells (HFW.out.keep bd))
      | (go_at_call 25; with_reducible refine (KR.out _).mono ?_; rintro e wb ⟨vb, rfl, ob, bb⟩; have be := thenBelow bd bb; obtain ⟨yf0, yf1, yf2, _⟩ := addrCells ((HFi.out.via (Below.refl _ _).drew ba).keep bb); obtain ⟨ya0, ya1, ya2, _⟩ := addrCells ((HLa.out.via (Below.refl _ _).drew ba).keep bb); obtain ⟨⟨ym0, ym1, ym2, ym3⟩, ⟨ym4, ym5, ym6, ym7⟩, _⟩ := famCells (HFW.out.keep be))
      | fail)
  go_wp2
  go_returns
  exact ⟨_, rfl, ownsLow ob bd.size, be⟩
set_option maxHeartbeats 2000000 in
theorem range_ok_true (x1 x2 : Nat) (hx1 : x1 < 2 ^ 128) (hx2 : x2 < 2 ^ 128) (h0 : x1 < 2 ^ wideN true) (h : x2 < 2 ^ wideN true) (hl : ¬ x2 < x1) (w : World) (HF : FamAt w) :
    Calls Tryd.prog 13 #[.agg #[.bool true, .int .u64 (aH x1), .int .u64 (aL x1)], .agg #[.bool true, .int .u64 (aH x2), .int .u64 (aL x2)]] w (PresOutE (cn true (fromTo x1 x2) (wideN true) 0) 0 w) := by
  have M1 := Lib.hid (mayN true x1 hx1 true (decide_eq_true h0))
  have M2 := Lib.hid (mayN true x2 hx2 true (decide_eq_true h))
  have LS := Lib.hid (less_is true true x2 x1 false (decide_eq_false hl))
  have KR := Lib.hid (rangeTop_calls true x1 x2)
  have HFW := Lib.hid HF
  clear HF
  go_enter Tryd.func13, Tryd.ntmps13
  go_wp2_with fail
  refine (M1.out _).mono ?_
  rintro e w1 ⟨rfl, hb1⟩
  have b1 := thenBelow (show Below w.heap.size w _ from (by first | exact Below.refl _ _ | exact (Below.refl _ _).alloc (Nat.le_refl _) _ | exact ((Below.refl _ _).alloc (Nat.le_refl _) _).alloc (by simp) _ | exact (((Below.refl _ _).alloc (Nat.le_refl _) _).alloc (by simp) _).alloc (by simp; omega) _)) hb1
  have Gfi := (AddrAt.new (w) true (aH x1) (aL x1) 31).via (by first | exact Below.refl _ _ | exact (Below.refl _ _).alloc (Nat.le_refl _) _ | exact ((Below.refl _ _).alloc (Nat.le_refl _) _).alloc (by simp) _ | exact (((Below.refl _ _).alloc (Nat.le_refl _) _).alloc (by simp) _).alloc (by simp; omega) _) hb1
  try simp only [World.size_alloc] at Gfi
  have Ffi := Lib.hid Gfi
  clear Gfi
  have Gla := (AddrAt.new ((w.alloc (.cells #[.bool true, .int .u64 (aH x1), .int .u64 (aL x1)] 31))) true (aH x2) (aL x2) 31).via (by first | exact Below.refl _ _ | exact (Below.refl _ _).alloc (Nat.le_refl _) _ | exact ((Below.refl _ _).alloc (Nat.le_refl _) _).alloc (by simp) _ | exact (((Below.refl _ _).alloc (Nat.le_refl _) _).alloc (by simp) _).alloc (by simp; omega) _) hb1
  try simp only [World.size_alloc] at Gla
  have Fla := Lib.hid Gla
  clear Gla
  clear hb1
  obtain ⟨la_0, la_1, la_2, la_l⟩ := Fla.out
  have la_m := Nat.lt_succ_of_lt la_l
  try simp only [Nat.succ_eq_add_one, Nat.add_lt_add_iff_right] at la_m
  go_wp2_with fail
  refine (M2.out _).mono ?_
  rintro e w2 ⟨rfl, hb2⟩
  have b2 := thenBelow (thenBelow b1 (by first | exact Below.refl _ _ | exact (Below.refl _ _).alloc (Nat.le_refl _) _ | exact ((Below.refl _ _).alloc (Nat.le_refl _) _).alloc (by simp) _ | exact (((Below.refl _ _).alloc (Nat.le_refl _) _).alloc (by simp) _).alloc (by simp; omega) _)) hb2
  clear la_0 la_1 la_2 la_l la_m
  have Ffi := Lib.hid (Ffi.out.via (by first | exact Below.refl _ _ | exact (Below.refl _ _).alloc (Nat.le_refl _) _ | exact ((Below.refl _ _).alloc (Nat.le_refl _) _).alloc (by simp) _ | exact (((Below.refl _ _).alloc (Nat.le_refl _) _).alloc (by simp) _).alloc (by simp; omega) _) hb2)
  have Fla := Lib.hid (Fla.out.via (by first | exact Below.refl _ _ | exact (Below.refl _ _).alloc (Nat.le_refl _) _ | exact ((Below.refl _ _).alloc (Nat.le_refl _) _).alloc (by simp) _ | exact (((Below.refl _ _).alloc (Nat.le_refl _) _).alloc (by simp) _).alloc (by simp; omega) _) hb2)
  clear hb2 b1
  obtain ⟨fi_0, fi_1, fi_2, fi_l⟩ := Ffi.out
  have fi_m := Nat.lt_succ_of_lt fi_l
  try simp only [Nat.succ_eq_add_one, Nat.add_lt_add_iff_right] at fi_m
  obtain ⟨la_0, la_1, la_2, la_l⟩ := Fla.out
  have la_m := Nat.lt_succ_of_lt la_l
  try simp only [Nat.succ_eq_add_one, Nat.add_lt_add_iff_right] at la_m
  go_wp2_with fail
  refine (LS.out _).mono ?_
  rintro e w3 ⟨rfl, hb3⟩
  have b3 := thenBelow (thenBelow b2 (by first | exact Below.refl _ _ | exact (Below.refl _ _).alloc (Nat.le_refl _) _ | exact ((Below.refl _ _).alloc (Nat.le_refl _) _).alloc (by simp) _ | exact (((Below.refl _ _).alloc (Nat.le_refl _) _).alloc (by simp) _).alloc (by simp; omega) _)) hb3
  clear fi_0 fi_1 fi_2 fi_l fi_m la_0 la_1 la_2 la_l la_m
  have Ffi := Lib.hid (Ffi.out.via (by first | exact Below.refl _ _ | exact (Below.refl _ _).alloc (Nat.le_refl _) _ | exact ((Below.refl _ _).alloc (Nat.le_refl _) _).alloc (by simp) _ | exact (((Below.refl _ _).alloc (Nat.le_refl _) _).alloc (by simp) _).alloc (by simp; omega) _) hb3)
  have Fla := Lib.hid (Fla.out.via (by first | exact Below.refl _ _ | exact (Below.refl _ _).alloc (Nat.le_refl _) _ | exact ((Below.refl _ _).alloc (Nat.le_refl _) _).alloc (by simp) _ | exact (((Below.refl _ _).alloc (Nat.le_refl _) _).alloc (by simp) _).alloc (by simp; omega) _) hb3)
  clear hb3 b2
  have FF := HFW.out.keep b3
  have HFJ := Lib.hid FF
  have HFi := Ffi
  have HLa := Fla
  obtain ⟨f0, f1, f2, _⟩ := Ffi.out
  obtain ⟨a0, a1, a2, _⟩ := Fla.out
  obtain ⟨⟨m0, m1, m2, m3⟩, ⟨m4, m5, m6, m7⟩, ml⟩ := FF
  have hs := b3.size
  go_wp2_with fail
  go_region_held3 (fun w' => w'.cell? ⟨w.heap.size, 0, none⟩ = some (.bool true) ∧ w'.cell? ⟨w.heap.size, 1, none⟩ = some (.int .u64 (aH x1)) ∧ w'.cell? ⟨w.heap.size, 2, none⟩ = some (.int .u64 (aL x1)) ∧ w'.cell? ⟨w.heap.size + 1, 0, none⟩ = some (.bool true) ∧ w'.cell? ⟨w.heap.size + 1, 1, none⟩ = some (.int .u64 (aH x2)) ∧ w'.cell? ⟨w.heap.size + 1, 2, none⟩ = some (.int .u64 (aL x2)) ∧ w'.cell? ⟨0, 4, none⟩ = some (.bool true) ∧ w'.cell? ⟨0, 5, none⟩ = some (.int .u64 0) ∧ w'.cell? ⟨0, 6, none⟩ = some (.int .u64 0) ∧ w'.cell? ⟨0, 7, none⟩ = some (.int .i64 0))
    (first
      | (simp [go_sem, f0, f1, f2, a0, a1, a2, m4, m5, m6, m7]; done)
      | (simp [go_sem, xf0, xf1, xf2, xa0, xa1, xa2, xm4, xm5, xm6, xm7]; done)
      | (simp [go_sem, yf0, yf1, yf2, ya0, ya1, ya2, ym4, ym5, ym6, ym7]; done)
      | fail)
    (first
      | (go_at_call 26; with_reducible refine (familyB true _ _ 1 rfl _).mono ?_; rintro e wa ⟨rfl, ba⟩; have bd := thenBelow b3.drew ba; obtain ⟨xf0, xf1, xf2, _⟩ := addrCells (HFi.out.via (Below.refl _ _).drew ba); obtain ⟨xa0, xa1, xa2, _⟩ := addrCells (HLa.out.via (Below.refl _ _).drew ba); obtain ⟨⟨xm0, xm1, xm2, xm3⟩, ⟨xm4, xm5, xm6, xm7⟩, _⟩ := famCells (HFW.out.keep bd))
      | (go_at_call 25; with_reducible refine (KR.out _).mono ?_; rintro e wb ⟨vb, rfl, ob, bb⟩; have be := thenBelow bd bb; obtain ⟨yf0, yf1, yf2, _⟩ := addrCells ((HFi.out.via (Below.refl _ _).drew ba).keep bb); obtain ⟨ya0, ya1, ya2, _⟩ := addrCells ((HLa.out.via (Below.refl _ _).drew ba).keep bb); obtain ⟨⟨ym0, ym1, ym2, ym3⟩, ⟨ym4, ym5, ym6, ym7⟩, _⟩ := famCells (HFW.out.keep be))
      | fail)
  go_wp2
  go_returns
  exact ⟨_, rfl, ownsLow ob bd.size, be⟩
end Go.Proofs.YtifhakoeinalaaaDoor

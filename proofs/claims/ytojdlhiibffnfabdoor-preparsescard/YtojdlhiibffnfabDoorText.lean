/-
  The contract of addr.Text.
-/
import Derived.Test.YtojdlhiibffnfabDoorSixText
import Derived.Test.YtojdlhiibffnfabDoorMay
namespace Go.Proofs.YtojdlhiibffnfabDoor
open Go.RowKit Go.Sort
set_option linter.unusedVariables false
set_option linter.unusedSimpArgs false

/-- The text of an address; its code. -/
def textL (six : Bool) (H L : Nat) : List UInt8 := if six then sixT (grpP H L) else if H = 0 ∧ L < 4294967296 then Lib.join (fourT L) [46] else []
def textE (six : Bool) (H L : Nat) : Int := if six then 0 else if H = 0 ∧ L < 4294967296 then 0 else 4

set_option maxHeartbeats 400000 in
theorem text_six (H L : Nat) (h1 : H < 18446744073709551616) (l1 : L < 18446744073709551616) (w : World) (ht : Tabs w) :
    Calls Tryd.prog 10 #[.agg #[.bool true, .int .u64 (H : Int), .int .u64 (L : Int)]] w fun e w' => e = .returned (.tuple #[.string ⟨(sixT (grpP H L)).toArray⟩, .int .i64 0]) ∧ Below w.heap.size w w' := by
  have HT := Lib.hid ht
  clear ht
  go_enter Tryd.func10, Tryd.ntmps10
  go_wp2_with (first
    | (go_at_call 22; refine (sixText_calls true H L h1 l1 _ ((HT.out.alloc _).alloc _)).mono ?_; rintro e w1 ⟨rfl, hb⟩)
    | (go_at_call 21; go_in))
  go_ret2
  exact ⟨rfl, thenBelow (((Below.refl _ w).alloc (Nat.le_refl _) _).alloc (by simp) _) hb⟩

set_option maxHeartbeats 400000 in
theorem text_four (L : Nat) (l1 : L < 4294967296) (w : World) (ht : Tabs w) :
    Calls Tryd.prog 10 #[.agg #[.bool false, .int .u64 0, .int .u64 (L : Int)]] w fun e w' => e = .returned (.tuple #[.string ⟨(Lib.join (fourT L) [46]).toArray⟩, .int .i64 0]) ∧ Below w.heap.size w w' := by
  have HT := Lib.hid ht
  clear ht
  have l2 : (L : Int) < 4294967296 := by omega
  go_enter Tryd.func10, Tryd.ntmps10
  go_wp2_with (first
    | (go_at_call 23; refine (fourText_calls 0 L (by omega) _ ((HT.out.alloc _).alloc _)).mono ?_; rintro e w1 ⟨rfl, hb⟩)
    | (go_at_call 21; go_in))
  go_ret2
  exact ⟨rfl, thenBelow (((Below.refl _ w).alloc (Nat.le_refl _) _).alloc (by simp) _) hb⟩

set_option maxHeartbeats 400000 in
theorem text_no (hi lo : Int) (h0 : 0 ≤ hi) (l0 : 0 ≤ lo) (hm : ¬ (hi = 0 ∧ lo < 4294967296)) (w : World) :
    Calls Tryd.prog 10 #[.agg #[.bool false, .int .u64 hi, .int .u64 lo]] w fun e w' => e = .returned (.tuple #[.string ⟨#[]⟩, .int .i64 4]) ∧ Below w.heap.size w w' := by
  by_cases hz : hi = 0
  · subst hz
    have hl : ¬ lo < 4294967296 := fun h => hm ⟨rfl, h⟩
    clear hm
    go_enter Tryd.func10, Tryd.ntmps10
    go_wp2
    go_ret2
    exact ⟨rfl, by go_grown⟩
  · have hz' : (hi == 0) = false := by simpa using hz
    clear hm
    go_enter Tryd.func10, Tryd.ntmps10
    go_wp2
    go_ret2
    exact ⟨rfl, by go_grown⟩

theorem text_calls (six : Bool) (H L : Nat) (h1 : H < 18446744073709551616) (l1 : L < 18446744073709551616) (w : World) (ht : Tabs w) :
    Calls Tryd.prog 10 #[.agg #[.bool six, .int .u64 (H : Int), .int .u64 (L : Int)]] w fun e w' => e = .returned (.tuple #[.string ⟨(textL six H L).toArray⟩, .int .i64 (textE six H L)]) ∧ Below w.heap.size w w' := by
  cases six
  · by_cases hm : H = 0 ∧ L < 4294967296
    · have e1 : textL false H L = Lib.join (fourT L) [46] := by simp [textL, hm]
      have e2 : textE false H L = 0 := by simp [textE, hm]
      rw [e1, e2]
      obtain ⟨rfl, hl⟩ := hm
      exact text_four L hl w ht
    · have e1 : textL false H L = [] := by unfold textL; rw [if_neg (by decide), if_neg hm]
      have e2 : textE false H L = 4 := by unfold textE; rw [if_neg (by decide), if_neg hm]
      rw [e1, e2]
      exact text_no H L (by omega) (by omega) (by omega) w
  · exact text_six H L h1 l1 w ht
end Go.Proofs.YtojdlhiibffnfabDoor

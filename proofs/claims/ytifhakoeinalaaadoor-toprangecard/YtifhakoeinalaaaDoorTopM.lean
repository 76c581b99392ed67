/-
  Plain mathematics: prefixes of routes and the set of their addresses.
-/
import Derived.Test.YtifhakoeinalaaaDoorFourM
import Derived.Test.YtifhakoeinalaaaDoorTLongM
namespace Go.Proofs.YtifhakoeinalaaaDoor
open Go.RowKit
set_option linter.unusedVariables false
set_option linter.unusedSimpArgs false
theorem low_inB {x y j : Nat} (hx : lowN x j = x) : lowN y j = x ↔ inB x j y := by
  unfold lowN at hx
  unfold inB lowN
  have hP := Nat.two_pow_pos j
  generalize 2 ^ j = P at *
  constructor
  · intro h
    have a := Nat.div_add_mod y P
    have b := Nat.mod_lt y hP
    have c : P * (y / P) = y / P * P := Nat.mul_comm _ _
    omega
  · rintro ⟨h1, h2⟩
    have e : y / P = x / P := by
      refine Nat.div_eq_of_lt_le (by rw [hx]; exact h1) ?_
      rw [Nat.succ_mul, hx]; exact h2
    rw [e, hx]
theorem mB_inB {p : PT} (h : Int) (hf : p.1 = false) (hc : chkP p = 0) (y : Nat) : mB false y (p, h) = true ↔ inB p.2.1 (wideN false - p.2.2.toNat) y := by
  obtain ⟨s, x, n⟩ := p
  simp only at hf
  subst hf
  obtain ⟨_, k, rfl, _, hl⟩ := chk0 (six := false) (x := x) (n := n) hc
  rw [mB_iff]
  simp only [true_and, Int.toNat_natCast] at hl ⊢
  exact low_inB hl
theorem fb_four {l : List PT} (h : Four l) (a : Nat) : tS l a ↔ ∃ p ∈ l, inB p.2.1 (wideN false - p.2.2.toNat) a := by
  unfold tS inS fb
  constructor
  · rintro ⟨q, hq, hi⟩
    obtain ⟨p, hp, rfl⟩ := List.mem_map.1 hq
    exact ⟨p, (List.mem_filter.1 hp).1, hi⟩
  · rintro ⟨p, hp, hi⟩
    exact ⟨_, List.mem_map.2 ⟨p, List.mem_filter.2 ⟨hp, by simp [h.2 p hp]⟩, rfl⟩, hi⟩
/-- Some prefix of the list contains the address. -/
def hasP (l : List PT) (y : Nat) : Bool := l.any fun p => mB false y (p, 0)
theorem hasP_iff {l : List PT} (h : Four l) (y : Nat) : hasP l y = true ↔ tS l y := by
  rw [fb_four h, hasP, List.any_eq_true]
  constructor
  · rintro ⟨p, hp, hm⟩; exact ⟨p, hp, (mB_inB 0 (h.2 p hp) (h.1 p hp) y).1 hm⟩
  · rintro ⟨p, hp, hm⟩; exact ⟨p, hp, (mB_inB 0 (h.2 p hp) (h.1 p hp) y).2 hm⟩
theorem hasP_take {l : List PT} {k : Nat} (hk : k < l.length) (y : Nat) : hasP (l.take (k + 1)) y = (hasP (l.take k) y || mB false y (l[k], 0)) := by
  rw [hasP, List.take_succ_eq_append_getElem hk, List.any_append]; simp [hasP]
/-- Routed: some route contains the address. -/
theorem best_pos {L : List RT} (I : InvR L) (y : Nat) : (0 < (bestA false y L).1) ↔ ∃ r ∈ L, mB false y r = true := by
  rcases bestA_best (s := false) (y := y) I.val with ⟨a, h, _⟩ | ⟨r, hr, hm, h, _, _⟩
  · rw [h]
    exact ⟨fun c => by omega, fun ⟨r, hr, c⟩ => by rw [a r hr] at c; cases c⟩
  · have := (rtE_0 (I.fine r hr)).2.1
    exact ⟨fun _ => ⟨r, hr, hm⟩, fun _ => by rw [← h]; omega⟩
theorem four_routes {L : List RT} (I : InvR L) (hf : ∀ r ∈ L, r.1.1 = false) : Four (L.map Prod.fst) :=
  ⟨fun p hp => by obtain ⟨r, hr, rfl⟩ := List.mem_map.1 hp; exact I.val r hr, fun p hp => by obtain ⟨r, hr, rfl⟩ := List.mem_map.1 hp; exact hf r hr⟩
theorem top_has {L : List RT} (I : InvR L) (hf : ∀ r ∈ L, r.1.1 = false) {y : Nat} (hy : y < 2 ^ wideN false) :
    hasP (cn false (tS (L.map Prod.fst)) (wideN false) 0) y = decide (0 < (bestA false y L).1) := by
  have F := four_routes I hf
  rw [Bool.eq_iff_iff, hasP_iff Four.cn, tS_cn, decide_eq_true_iff, best_pos I]
  constructor
  · rintro ⟨_, h⟩
    obtain ⟨p, hp, hi⟩ := (fb_four F y).1 h
    obtain ⟨r, hr, rfl⟩ := List.mem_map.1 hp
    exact ⟨r, hr, (mB_inB r.2 (hf r hr) (I.val r hr) y).2 hi⟩
  · rintro ⟨r, hr, hm⟩
    exact ⟨⟨Nat.zero_le _, by rw [Nat.zero_add]; exact hy⟩, (fb_four F y).2 ⟨r.1, List.mem_map.2 ⟨r, hr, rfl⟩, (mB_inB r.2 (hf r hr) (I.val r hr) y).1 hm⟩⟩
theorem cn_short {l : List PT} (F : Four l) : (cn false (tS l) (wideN false) 0).length ≤ l.length := by
  unfold cn
  rw [List.length_map]
  exact Nat.le_trans (canon_merge_len (fb_four_al F) (AL.top false)) (fb_len false l)
end Go.Proofs.YtifhakoeinalaaaDoor

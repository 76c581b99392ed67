/-
  Laid together: PreC, TabA, TabM, TabB, PreHasC, RefFault, RefIn.
-/
import Derived.Test.YtgajepmnklbmpaaPreB
import Derived.Test.YtgajepmnklbmpaaG4
import Derived.Deep.QuietTactic
import Derived.BigQuiet
import Derived.Deep.RegionHeld3
import Derived.Test.YtgajepmnklbmpaaRefPre
import Derived.WalkSmall
/-
  Contract of pre.Check (one for all).
-/
namespace Go.Proofs.Ytgajepmnklbmpaa
open Go.RowKit
set_option linter.unusedVariables false
set_option linter.unusedSimpArgs false

theorem check_calls (six : Bool) (x : Nat) (n : Int) (hx : x < 2 ^ 128) (w : World) :
    Calls Try.prog 60 #[.agg #[.bool six, .int .u64 (aH x), .int .u64 (aL x), .int .i64 n]] w fun e w' => e = .returned (.int .i64 (chkE six x n)) ∧ Below w.heap.size w w' := by
  by_cases hv : x < 2 ^ wideN six
  · by_cases hn : 0 ≤ n ∧ n ≤ wideN six
    · obtain ⟨k, rfl⟩ := Int.eq_ofNat_of_zero_le hn.1
      have hk : k ≤ wideN six := by omega
      by_cases hl : lowN x (wideN six - k) = x
      · rw [show chkE six x k = 0 from by unfold chkE; rw [if_pos hv, if_pos hn, if_pos (by simpa using hl)]]
        exact check_ok six x k hx hv hk hl w
      · rw [show chkE six x k = 5 from by unfold chkE; rw [if_pos hv, if_pos hn, if_neg (by simpa using hl)]]
        exact check_bits six x k hx hv hk hl w
    · rw [show chkE six x n = 2 from by unfold chkE; rw [if_pos hv, if_neg hn]]
      by_cases h0 : n < 0
      · exact check_neg six x n hx hv h0 w
      · exact check_big six x n hx hv (by omega) w
  · rw [show chkE six x n = 4 from by unfold chkE; rw [if_neg hv]]
    exact check_form six x n hx hv w
theorem chk0 {six : Bool} {x : Nat} {n : Int} (h : chkE six x n = 0) : x < 2 ^ wideN six ∧ ∃ k : Nat, n = k ∧ k ≤ wideN six ∧ lowN x (wideN six - k) = x := by
  unfold chkE at h
  split at h
  · rename_i hv
    split at h
    · rename_i hn
      split at h
      · rename_i hl; exact ⟨hv, n.toNat, by omega, by omega, hl⟩
      · omega
    · omega
  · omega
theorem chk_mk (six : Bool) (x k : Nat) (hv : x < 2 ^ wideN six) (hk : k ≤ wideN six) (hl : lowN x (wideN six - k) = x) : chkE six x k = 0 := by
  unfold chkE; rw [if_pos hv, if_pos (by omega), if_pos (by simpa using hl)]
theorem lt128 {six : Bool} {x : Nat} (h : x < 2 ^ wideN six) : x < 2 ^ 128 := Nat.lt_of_lt_of_le h (Nat.pow_le_pow_right (by omega) (wideN_le six))

theorem may_num (six : Bool) (x : Nat) (hx : x < 2 ^ 128) (b : Bool) (hb : decide (x < 2 ^ wideN six) = b) (w : World) :
    Calls Try.prog 88 #[.agg #[.bool six, .int .u64 (aH x), .int .u64 (aL x)]] w fun e w' => e = .returned (.bool b) ∧ w.alloc (.cells #[.bool six, .int .u64 (aH x), .int .u64 (aL x)] 61) = w' := by
  rw [← hb, ← mayB_num six x hx]
  exact may_calls six _ _ (aH_0 x) (aL_0 x) w

/-- Two numbers are the same, or differ in a word. -/
theorem eq3 (y x : Nat) : y = x ∨ (aH y == aH x) = false ∨ aH y = aH x ∧ (aL y == aL x) = false := by
  by_cases h : aH y = aH x
  · by_cases l : aL y = aL x
    · exact .inl (a_inj h l)
    · exact .inr (.inr ⟨h, by simpa using l⟩)
  · exact .inr (.inl (by simpa using h))
theorem ne_of_h {y x : Nat} (h : (aH y == aH x) = false) : y ≠ x := by rintro rfl; simp at h
theorem ne_of_l {y x : Nat} (h : (aL y == aL x) = false) : y ≠ x := by rintro rfl; simp at h

end Go.Proofs.Ytgajepmnklbmpaa
/-
  cmp.Compare, cmp.Or and table.compare: the order of prefixes.
-/
namespace Go.Proofs.Ytgajepmnklbmpaa
open Go.RowKit
set_option linter.unusedVariables false
set_option linter.unusedSimpArgs false

theorem nanU (x : Int) (w : World) : Calls Try.prog 107 #[.int .u64 x] w fun e w' => e = .returned (.bool false) ∧ w = w' := by
  go_enter Try.func107, Try.ntmps107
  go_wp2
  go_ret
  exact ⟨by simp, rfl⟩
theorem nanI (x : Int) (w : World) : Calls Try.prog 96 #[.int .i64 x] w fun e w' => e = .returned (.bool false) ∧ w = w' := by
  go_enter Try.func96, Try.ntmps96
  go_wp2
  go_ret
  exact ⟨by simp, rfl⟩
/-- -1, 0 or 1. -/
def cmpI (x y : Int) : Int := if x < y then -1 else if y < x then 1 else 0
theorem compareU (x y : Int) (w : World) : Calls Try.prog 104 #[.int .u64 x, .int .u64 y] w fun e w' => e = .returned (.int .i64 (cmpI x y)) ∧ w = w' := by
  by_cases h1 : x < y
  · rw [show cmpI x y = -1 by unfold cmpI; rw [if_pos h1]]
    go_enter Try.func104, Try.ntmps104
    go_wp2_with fail
    refine (nanU x _).mono ?_
    rintro e w' ⟨rfl, rfl⟩
    go_wp2_with fail
    refine (nanU y _).mono ?_
    rintro e w' ⟨rfl, rfl⟩
    go_wp2
    go_ret
    exact ⟨rfl, rfl⟩
  by_cases h2 : y < x
  · rw [show cmpI x y = 1 by unfold cmpI; rw [if_neg h1, if_pos h2]]
    go_enter Try.func104, Try.ntmps104
    go_wp2_with fail
    refine (nanU x _).mono ?_
    rintro e w' ⟨rfl, rfl⟩
    go_wp2_with fail
    refine (nanU y _).mono ?_
    rintro e w' ⟨rfl, rfl⟩
    go_wp2
    go_ret
    exact ⟨rfl, rfl⟩
  · rw [show cmpI x y = 0 by unfold cmpI; rw [if_neg h1, if_neg h2]]
    go_enter Try.func104, Try.ntmps104
    go_wp2_with fail
    refine (nanU x _).mono ?_
    rintro e w' ⟨rfl, rfl⟩
    go_wp2_with fail
    refine (nanU y _).mono ?_
    rintro e w' ⟨rfl, rfl⟩
    go_wp2
    go_ret
    exact ⟨rfl, rfl⟩
theorem compareI (x y : Int) (w : World) : Calls Try.prog 105 #[.int .i64 x, .int .i64 y] w fun e w' => e = .returned (.int .i64 (cmpI x y)) ∧ w = w' := by
  by_cases h1 : x < y
  · rw [show cmpI x y = -1 by unfold cmpI; rw [if_pos h1]]
    go_enter Try.func105, Try.ntmps105
    go_wp2_with fail
    refine (nanI x _).mono ?_
    rintro e w' ⟨rfl, rfl⟩
    go_wp2_with fail
    refine (nanI y _).mono ?_
    rintro e w' ⟨rfl, rfl⟩
    go_wp2
    go_ret
    exact ⟨rfl, rfl⟩
  by_cases h2 : y < x
  · rw [show cmpI x y = 1 by unfold cmpI; rw [if_neg h1, if_pos h2]]
    go_enter Try.func105, Try.ntmps105
    go_wp2_with fail
    refine (nanI x _).mono ?_
    rintro e w' ⟨rfl, rfl⟩
    go_wp2_with fail
    refine (nanI y _).mono ?_
    rintro e w' ⟨rfl, rfl⟩
    go_wp2
    go_ret
    exact ⟨rfl, rfl⟩
  · rw [show cmpI x y = 0 by unfold cmpI; rw [if_neg h1, if_neg h2]]
    go_enter Try.func105, Try.ntmps105
    go_wp2_with fail
    refine (nanI x _).mono ?_
    rintro e w' ⟨rfl, rfl⟩
    go_wp2_with fail
    refine (nanI y _).mono ?_
    rintro e w' ⟨rfl, rfl⟩
    go_wp2
    go_ret
    exact ⟨rfl, rfl⟩
/-- The first that is not 0. -/
def orI (a b c : Int) : Int := if a = 0 then (if b = 0 then c else b) else a
set_option maxHeartbeats 2000000 in
theorem or3 (g : Nat) (a b c : Int) (w : World) (h0 : w.cell? ⟨g, 0, none⟩ = some (.int .i64 a)) (h1 : w.cell? ⟨g, 1, none⟩ = some (.int .i64 b)) (h2 : w.cell? ⟨g, 2, none⟩ = some (.int .i64 c)) :
    Calls Try.prog 103 #[.slice (some ⟨g, 0, none⟩) 3 3] w fun e w' => e = .returned (.int .i64 (orI a b c)) ∧ w = w' := by
  by_cases ha : a = 0
  · by_cases hb : b = 0
    · subst ha hb
      show Calls _ _ _ _ fun e w' => e = .returned (.int .i64 c) ∧ w = w'
      by_cases hc : c = 0
      · subst hc
        go_enter Try.func103, Try.ntmps103
        go_wp2
        go_rounds 4
        go_ret
        exact ⟨rfl, rfl⟩
      · have hc1 : (c == 0) = false := by simpa using hc
        go_enter Try.func103, Try.ntmps103
        go_wp2
        go_rounds 4
        go_ret
        exact ⟨rfl, rfl⟩
    · have e : orI a b c = b := by unfold orI; rw [if_pos ha, if_neg hb]
      rw [e]
      subst ha
      have hc1 : (b == 0) = false := by simpa using hb
      go_enter Try.func103, Try.ntmps103
      go_wp2
      go_rounds 4
      go_ret
      exact ⟨rfl, rfl⟩
  · have e : orI a b c = a := by unfold orI; rw [if_neg ha]
    rw [e]
    have hc1 : (a == 0) = false := by simpa using ha
    go_enter Try.func103, Try.ntmps103
    go_wp2
    go_rounds 4
    go_ret
    exact ⟨rfl, rfl⟩
end Go.Proofs.Ytgajepmnklbmpaa
/-
  Plain mathematics of routing tables: the order of prefixes, lists in this order, where a prefix stands in one.
-/
namespace Go.Proofs.Ytgajepmnklbmpaa
set_option linter.unusedVariables false
set_option linter.unusedSimpArgs false

/-- A prefix: family, address, Len. -/
abbrev PK := Bool × Nat × Int
/-- A route: its prefix and its hop. -/
abbrev RT := PK × Int
/-- One prefix stands ahead of another one. -/
def ltK (p q : PK) : Prop := (p.1 = false ∧ q.1 = true) ∨ (p.1 = q.1 ∧ (p.2.1 < q.2.1 ∨ (p.2.1 = q.2.1 ∧ p.2.2 < q.2.2)))
instance (p q : PK) : Decidable (ltK p q) := by unfold ltK; infer_instance
theorem ltK_irrefl (p : PK) : ¬ ltK p p := by unfold ltK; rintro (⟨a, b⟩ | ⟨_, h | ⟨_, h⟩⟩) <;> (try omega); rw [a] at b; cases b
theorem ltK_trans {p q r : PK} (h : ltK p q) (g : ltK q r) : ltK p r := by
  unfold ltK at *
  rcases h with ⟨a, b⟩ | ⟨a, h⟩ <;> rcases g with ⟨c, d⟩ | ⟨c, g⟩
  · exact .inl ⟨a, d⟩
  · exact .inl ⟨a, c ▸ b⟩
  · exact .inl ⟨a.trans c, d⟩
  · exact .inr ⟨a.trans c, by omega⟩
theorem ltK_or (p q : PK) : ltK p q ∨ p = q ∨ ltK q p := by
  obtain ⟨s, x, n⟩ := p
  obtain ⟨t, y, m⟩ := q
  unfold ltK
  cases s <;> cases t <;> simp
  all_goals omega
theorem ltK_asymm {p q : PK} (h : ltK p q) : ¬ ltK q p := fun g => ltK_irrefl p (ltK_trans h g)
theorem ltK_ne {p q : PK} (h : ltK p q) : p ≠ q := fun e => ltK_irrefl q (e ▸ h)
/-- What table.compare says. -/
def cmpK (p q : PK) : Int := if ltK p q then -1 else if p = q then 0 else 1
theorem cmpK_neg (p q : PK) : cmpK p q < 0 ↔ ltK p q := by
  unfold cmpK
  split
  · simp [*]
  · split
    · rename_i h _; exact ⟨fun h => by omega, fun g => absurd g h⟩
    · rename_i h _; exact ⟨fun h => by omega, fun g => absurd g h⟩
theorem cmpK_zero (p q : PK) : cmpK p q = 0 ↔ p = q := by
  unfold cmpK
  split
  · rename_i h; simp; exact ltK_ne h
  · split <;> simp [*]
/-- Routes in the order of their prefixes, none twice. -/
def SortedR (l : List RT) : Prop := l.Pairwise fun a b => ltK a.1 b.1
/-- How many stand ahead of a prefix. -/
def posR (l : List RT) (p : PK) : Nat := l.countP fun r => decide (ltK r.1 p)
def hasR (l : List RT) (p : PK) : Bool := l.any fun r => decide (r.1 = p)
theorem posR_le (l : List RT) (p : PK) : posR l p ≤ l.length := List.countP_le_length
theorem SortedR.lt {l : List RT} (h : SortedR l) {i j : Nat} (hij : i < j) (hj : j < l.length) : ltK (l[i]'(by omega)).1 l[j].1 :=
  List.pairwise_iff_getElem.1 h i j (by omega) hj hij
/-- A place that has all smaller ones ahead of it is the place. -/
theorem posR_of {l : List RT} {p : PK} (i : Nat) (hi : i ≤ l.length) (h1 : ∀ t (h : t < l.length), t < i → ltK l[t].1 p) (h2 : ∀ t (h : t < l.length), i ≤ t → ¬ ltK l[t].1 p) : posR l p = i := by
  have e : l = l.take i ++ l.drop i := (List.take_append_drop i l).symm
  unfold posR
  rw [e, List.countP_append]
  have a : (l.take i).countP (fun r => decide (ltK r.1 p)) = i := by
    rw [List.countP_eq_length.2, List.length_take, Nat.min_eq_left hi]
    intro r hr
    obtain ⟨t, ht, rfl⟩ := List.getElem_of_mem hr
    rw [List.length_take] at ht
    rw [List.getElem_take]
    exact decide_eq_true (h1 t (by omega) (by omega))
  have b : (l.drop i).countP (fun r => decide (ltK r.1 p)) = 0 := by
    rw [List.countP_eq_zero]
    intro r hr
    obtain ⟨t, ht, rfl⟩ := List.getElem_of_mem hr
    rw [List.length_drop] at ht
    rw [List.getElem_drop]
    simpa using h2 (i + t) (by omega) (by omega)
  rw [a, b, Nat.add_zero]
theorem SortedR.before {l : List RT} (h : SortedR l) {p : PK} {t : Nat} (ht : t < l.length) (hlt : t < posR l p) : ltK l[t].1 p := by
  refine Classical.byContradiction fun hn => ?_
  have : posR l p ≤ t := by
    unfold posR
    have e : l = l.take t ++ l.drop t := (List.take_append_drop t l).symm
    rw [e, List.countP_append]
    have a : (l.take t).countP (fun r => decide (ltK r.1 p)) ≤ t := Nat.le_trans List.countP_le_length (by rw [List.length_take]; omega)
    have b : (l.drop t).countP (fun r => decide (ltK r.1 p)) = 0 := by
      rw [List.countP_eq_zero]
      intro r hr
      obtain ⟨s, hs, rfl⟩ := List.getElem_of_mem hr
      rw [List.length_drop] at hs
      rw [List.getElem_drop]
      simp
      intro hq
      by_cases h0 : s = 0
      · subst h0; exact hn (by simpa using hq)
      · exact hn (ltK_trans (h.lt (show t < t + s by omega) (by omega)) hq)
    omega
  omega
theorem SortedR.behind {l : List RT} (h : SortedR l) {p : PK} {t : Nat} (ht : t < l.length) (hge : posR l p ≤ t) : ¬ ltK l[t].1 p := by
  intro hq
  have : t + 1 ≤ posR l p := by
    unfold posR
    have e : l = l.take (t + 1) ++ l.drop (t + 1) := (List.take_append_drop (t + 1) l).symm
    rw [e, List.countP_append]
    have a : (l.take (t + 1)).countP (fun r => decide (ltK r.1 p)) = t + 1 := by
      rw [List.countP_eq_length.2, List.length_take, Nat.min_eq_left (by omega)]
      intro r hr
      obtain ⟨s, hs, rfl⟩ := List.getElem_of_mem hr
      rw [List.length_take] at hs
      rw [List.getElem_take]
      refine decide_eq_true ?_
      by_cases h0 : s = t
      · subst h0; exact hq
      · exact ltK_trans (h.lt (show s < t by omega) ht) hq
    omega
  omega
/-- The place is the prefix's own, just if it is there. -/
theorem SortedR.found {l : List RT} (h : SortedR l) {p : PK} : hasR l p = true ↔ ∃ ht : posR l p < l.length, (l[posR l p]'ht).1 = p := by
  constructor
  · intro hh
    obtain ⟨r, hr, e⟩ := List.any_eq_true.1 hh
    obtain ⟨t, ht, rfl⟩ := List.getElem_of_mem hr
    have e := of_decide_eq_true e
    have : posR l p = t := posR_of t (by omega) (fun s hs hst => e ▸ h.lt hst ht) (fun s hs hst => by
      by_cases h0 : s = t
      · subst h0; rw [e]; exact ltK_irrefl _
      · exact fun hq => ltK_asymm hq (e ▸ h.lt (show t < s by omega) hs))
    exact ⟨by omega, by simp only [this]; exact e⟩
  · rintro ⟨ht, e⟩
    exact List.any_eq_true.2 ⟨_, List.getElem_mem ht, decide_eq_true e⟩
/-- A route put at its place. -/
def insR (l : List RT) (r : RT) : List RT := l.take (posR l r.1) ++ r :: l.drop (posR l r.1)
theorem insR_len (l : List RT) (r : RT) : (insR l r).length = l.length + 1 := by
  have := posR_le l r.1
  simp [insR]; omega
theorem insR_mem {l : List RT} {r x : RT} : x ∈ insR l r ↔ x = r ∨ x ∈ l := by
  conv => rhs; rw [← List.take_append_drop (posR l r.1) l]
  unfold insR
  simp only [List.mem_append, List.mem_cons]
  constructor
  · rintro (h | h | h) <;> simp [h]
  · rintro (h | h | h) <;> simp [h]
theorem SortedR.ins {l : List RT} (h : SortedR l) {r : RT} (hn : hasR l r.1 = false) : SortedR (insR l r) := by
  unfold insR SortedR
  have hb : ∀ a ∈ l.take (posR l r.1), ltK a.1 r.1 := fun a ha => by
    obtain ⟨t, ht, rfl⟩ := List.getElem_of_mem ha
    rw [List.length_take] at ht
    rw [List.getElem_take]
    exact h.before (by omega) (by omega)
  have hd : ∀ a ∈ l.drop (posR l r.1), ltK r.1 a.1 := fun a ha => by
    obtain ⟨t, ht, rfl⟩ := List.getElem_of_mem ha
    rw [List.length_drop] at ht
    rw [List.getElem_drop]
    have h1 := h.behind (p := r.1) (t := posR l r.1 + t) (by omega) (by omega)
    rcases ltK_or (l[posR l r.1 + t]).1 r.1 with g | g | g
    · exact absurd g h1
    · exfalso
      have : hasR l r.1 = true := List.any_eq_true.2 ⟨_, List.getElem_mem (by omega : posR l r.1 + t < l.length), decide_eq_true g⟩
      rw [hn] at this; cases this
    · exact g
  rw [List.pairwise_append]
  refine ⟨h.sublist (List.take_sublist _ _), List.pairwise_cons.2 ⟨hd, h.sublist (List.drop_sublist _ _)⟩, fun a ha b hb' => ?_⟩
  rcases List.mem_cons.1 hb' with rfl | hb'
  · exact hb a ha
  · exact ltK_trans (hb a ha) (hd b hb')
theorem hasR_ins (l : List RT) (r : RT) (p : PK) : hasR (insR l r) p = (decide (r.1 = p) || hasR l p) := by
  rw [Bool.eq_iff_iff]
  simp only [hasR, List.any_eq_true, Bool.or_eq_true, insR_mem, decide_eq_true_eq]
  constructor
  · rintro ⟨x, rfl | h, e⟩
    · exact .inl e
    · exact .inr ⟨x, h, e⟩
  · rintro (e | ⟨x, h, e⟩)
    · exact ⟨r, .inl rfl, e⟩
    · exact ⟨x, .inr h, e⟩
/-- The words of two addresses stand as the addresses do. -/
theorem words_lt (x y : Nat) : x < y ↔ aH x < aH y ∨ aH x = aH y ∧ aL x < aL y := by unfold aH aL; omega
theorem words_eq (x y : Nat) : x = y ↔ aH x = aH y ∧ aL x = aL y := by unfold aH aL; omega
end Go.Proofs.Ytgajepmnklbmpaa
/-
  table.compare: the order of prefixes.
-/
namespace Go.Proofs.Ytgajepmnklbmpaa
open Go.RowKit
set_option linter.unusedVariables false
set_option linter.unusedSimpArgs false

theorem compare_words (s : Bool) (x y : Nat) (n m : Int) : orI (cmpI (aH x) (aH y)) (cmpI (aL x) (aL y)) (cmpI n m) = cmpK (s, x, n) (s, y, m) := by
  have hl := words_lt x y
  have he := words_eq x y
  have hr := words_lt y x
  unfold orI cmpI cmpK ltK
  simp only [Prod.mk.injEq, true_and]
  rcases Int.lt_trichotomy (aH x) (aH y) with h | h | h
  · have : x < y := hl.2 (.inl h)
    simp [h, this]
  · rcases Int.lt_trichotomy (aL x) (aL y) with g | g | g
    · have : x < y := hl.2 (.inr ⟨h, g⟩)
      simp [h, g, this]
    · have : x = y := he.2 ⟨h, g⟩
      subst this
      rcases Int.lt_trichotomy n m with k | k | k
      · simp [k]
      · simp [k]
      · have k1 : ¬ n < m := by omega
        have k2 : ¬ n = m := by omega
        simp [k, k1, k2]
    · have : y < x := hr.2 (.inr ⟨h.symm, g⟩)
      have g1 : ¬ aL x < aL y := by omega
      have k1 : ¬ x < y := by omega
      have k2 : ¬ x = y := by omega
      simp [h, g, g1, k1, k2]
  · have : y < x := hr.2 (.inl h)
    have g1 : ¬ aH x < aH y := by omega
    have k1 : ¬ x < y := by omega
    have k2 : ¬ x = y := by omega
    simp [h, g1, k1, k2]
set_option maxHeartbeats 2000000 in
theorem compare_same (s : Bool) (x y : Nat) (n m : Int) (w : World) :
    Calls Try.prog 99 #[.agg #[.bool s, .int .u64 (aH x), .int .u64 (aL x), .int .i64 n], .agg #[.bool s, .int .u64 (aH y), .int .u64 (aL y), .int .i64 m]] w fun e w' => e = .returned (.int .i64 (cmpK (s, x, n) (s, y, m))) ∧ Below w.heap.size w w' := by
  rw [← compare_words]
  have P1 := (PreAt.new w s (aH x) (aL x) n 63).alloc (.cells #[.bool s, .int .u64 (aH y), .int .u64 (aL y), .int .i64 m] 63)
  have P2 := PreAt.new (w.alloc (.cells #[.bool s, .int .u64 (aH x), .int .u64 (aL x), .int .i64 n] 63)) s (aH y) (aL y) m 63
  have b1 := ((Below.refl _ w).alloc (Nat.le_refl _) (.cells #[.bool s, .int .u64 (aH x), .int .u64 (aL x), .int .i64 n] 63)).alloc (by simp) (.cells #[.bool s, .int .u64 (aH y), .int .u64 (aL y), .int .i64 m] 63)
  simp only [World.size_alloc] at P2
  go_enter Try.func99, Try.ntmps99
  go_wp2_with fail
  revert P1 P2 b1
  generalize (w.alloc (.cells #[.bool s, .int .u64 (aH x), .int .u64 (aL x), .int .i64 n] 63)).alloc (.cells #[.bool s, .int .u64 (aH y), .int .u64 (aL y), .int .i64 m] 63) = Y
  intro P1 b1 P2
  obtain ⟨p0, p1, p2, p3, pl⟩ := P1
  obtain ⟨q0, q1, q2, q3, ql⟩ := P2
  have A : ∀ (o : Obj) (b j : Nat) (u : Value), b < Y.heap.size → Y.cell? ⟨b, j, none⟩ = some u → (Y.alloc o).cell? ⟨b, j, none⟩ = some u := fun o b j u hb h => (((Below.refl Y.heap.size Y).alloc (Nat.le_refl _) o).cell (p := ⟨b, j, none⟩) hb).trans h
  have a1 := fun o => A o _ _ _ pl p1
  have a2 := fun o => A o _ _ _ pl p2
  have a3 := fun o => A o _ _ _ pl p3
  have a4 := fun o => A o _ _ _ ql q1
  have a5 := fun o => A o _ _ _ ql q2
  have a6 := fun o => A o _ _ _ ql q3
  clear A
  go_region_held3 (fun w' => w'.cell? ⟨w.heap.size, 1, none⟩ = some (.int .u64 (aH x)) ∧ w'.cell? ⟨w.heap.size, 2, none⟩ = some (.int .u64 (aL x)) ∧ w'.cell? ⟨w.heap.size, 3, none⟩ = some (.int .i64 n) ∧ w'.cell? ⟨w.heap.size + 1, 1, none⟩ = some (.int .u64 (aH y)) ∧ w'.cell? ⟨w.heap.size + 1, 2, none⟩ = some (.int .u64 (aL y)) ∧ w'.cell? ⟨w.heap.size + 1, 3, none⟩ = some (.int .i64 m))
    (first
      | (simp [go_sem, p1, p2, p3, q1, q2, q3]; done)
      | (simp only [World.cell?_drew]; exact ⟨a1 _, a2 _, a3 _, a4 _, a5 _, a6 _⟩)
      | exact ⟨a1 _, a2 _, a3 _, a4 _, a5 _, a6 _⟩
      | fail)
    (first
      | (go_at_call 104; with_reducible refine (compareU (aH x) (aH y) _).mono ?_; rintro e wa ⟨rfl, rfl⟩)
      | (go_at_call 104; with_reducible refine (compareU (aL x) (aL y) _).mono ?_; rintro e wa ⟨rfl, rfl⟩)
      | (go_at_call 105; with_reducible refine (compareI n m _).mono ?_; rintro e wa ⟨rfl, rfl⟩)
      | (go_at_call 103; refine (or3 Y.heap.size (cmpI (aH x) (aH y)) (cmpI (aL x) (aL y)) (cmpI n m) _ (by simp [go_sem]) (by simp [go_sem]) (by simp [go_sem])).mono ?_; rintro e wa ⟨rfl, rfl⟩)
      | fail)
  all_goals go_wp2
  all_goals go_ret
  all_goals exact ⟨rfl, by go_grown⟩
end Go.Proofs.Ytgajepmnklbmpaa
/-
  Contracts of pre.Has.
-/
namespace Go.Proofs.Ytgajepmnklbmpaa
open Go.RowKit
set_option linter.unusedVariables false
set_option linter.unusedSimpArgs false

end Go.Proofs.Ytgajepmnklbmpaa
/-
  The contract of the document's PreFault.
-/
namespace Go.Proofs.Ytgajepmnklbmpaa
open Go.RowKit
set_option linter.unusedVariables false
set_option linter.unusedSimpArgs false

/-- No bit from n on, among k. -/
def FaultUpto (six : Bool) (x n k : Nat) : Prop := ∀ j, n ≤ j → j < n + k → fB six x j = false
theorem refMay_num (six : Bool) (x : Nat) (hx : x < 2 ^ 128) (b : Bool) (hb : decide (x < 2 ^ wideN six) = b) (w : World) :
    Calls Try.prog 69 #[.agg #[.bool six, .int .u64 (aH x), .int .u64 (aL x)]] w fun e w' => e = .returned (.bool b) ∧ w.alloc (.cells #[.bool six, .int .u64 (aH x), .int .u64 (aL x)] 61) = w' := by
  rw [← hb, ← mayB_num six x hx]
  exact refMay_calls six _ _ (aH_0 x) (aL_0 x) w
set_option maxHeartbeats 400000 in
theorem refFault_form (six : Bool) (x : Nat) (n : Int) (hx : x < 2 ^ 128) (hv : ¬ x < 2 ^ wideN six) (w : World) :
    Calls Try.prog 49 #[.agg #[.bool six, .int .u64 (aH x), .int .u64 (aL x), .int .i64 n]] w fun e w' => e = .returned (.int .i64 4) ∧ Below w.heap.size w w' := by
  go_enter Try.func49, Try.ntmps49
  go_wp2_with fail
  refine (refMay_num six x hx false (decide_eq_false hv) _).mono ?_
  rintro e w1 ⟨rfl, rfl⟩
  go_wp2
  go_ret
  exact ⟨rfl, by go_grown⟩
set_option maxHeartbeats 400000 in
theorem refFault_out (six : Bool) (x : Nat) (n : Int) (hx : x < 2 ^ 128) (hv : x < 2 ^ wideN six) (hn : n < 0 ∨ (wideN six : Int) < n) (w : World) :
    Calls Try.prog 49 #[.agg #[.bool six, .int .u64 (aH x), .int .u64 (aL x), .int .i64 n]] w fun e w' => e = .returned (.int .i64 2) ∧ Below w.heap.size w w' := by
  go_enter Try.func49, Try.ntmps49
  go_wp2_with fail
  refine (refMay_num six x hx true (decide_eq_true hv) _).mono ?_
  rintro e w1 ⟨rfl, rfl⟩
  go_wp2_with fail
  refine (bitsOf_num six x hx _).mono ?_
  rintro e w1 ⟨g, cap, rfl, hB, hg, hc, hb⟩
  obtain ⟨p0, p1, p2, p3, pl⟩ := ((PreAt.new w six (aH x) (aL x) n 63).alloc _).keep hb
  have b1 := thenBelow (((Below.refl _ w).alloc (Nat.le_refl _) _).alloc (by simp) _) hb
  clear hb hB
  rcases hn with hn | hn
  · go_wp2
    go_ret
    exact ⟨rfl, b1⟩
  · have h0 : ¬ n < 0 := by omega
    go_wp2
    go_ret
    exact ⟨rfl, b1⟩
set_option maxHeartbeats 1000000 in
theorem refFault_in (six : Bool) (x n : Nat) (r : Int) (hx : x < 2 ^ 128) (hv : x < 2 ^ wideN six) (hn : n ≤ wideN six) (hr : (if lowN x (wideN six - n) = x then 0 else 5) = r) (w : World) :
    Calls Try.prog 49 #[.agg #[.bool six, .int .u64 (aH x), .int .u64 (aL x), .int .i64 n]] w fun e w' => e = .returned (.int .i64 r) ∧ Below w.heap.size w w' := by
  have hW := wideN_le six
  obtain ⟨W, hWe⟩ : ∃ W, wideN six = W := ⟨_, rfl⟩
  have LB := Lib.hid (lowBits_iff six x n hv hn)
  rw [hWe] at hn hW hr LB
  have HR := Lib.hid hr
  have HWE := Lib.hid hWe
  clear hr hWe
  go_enter Try.func49, Try.ntmps49
  go_wp2_with fail
  refine (refMay_num six x hx true (decide_eq_true hv) _).mono ?_
  rintro e w1 ⟨rfl, rfl⟩
  go_wp2_with fail
  refine (bitsOf_num six x hx _).mono ?_
  rw [HWE.out]
  rintro e w1 ⟨g, cap, rfl, hB, hg, hc, hb⟩
  obtain ⟨p0, p1, p2, p3, pl⟩ := ((PreAt.new w six (aH x) (aL x) n 63).alloc _).keep hb
  have b1 := thenBelow (((Below.refl _ w).alloc (Nat.le_refl _) _).alloc (by simp) _) hb
  have HB := Lib.hid hB
  obtain ⟨hc1, hc2⟩ := hc
  unfold maxLen at hc2
  clear hb hB hg
  by_cases hcap : n < cap
  · have hne : cap ≠ n := by omega
    have hwn := Lib.hid (show W - n ≤ 128 by omega)
    go_wp2
    go_loop [28] (fun i => ∃ k : Nat, k ≤ W - n ∧ i = .int .i64 k ∧ FaultUpto six x n k) (fun i => W - n - (intOf i).toNat)
    case atStart => exact ⟨0, Nat.zero_le _, rfl, fun j h1 h2 => by omega⟩
    case round =>
      obtain ⟨k, hk, rfl, hrel⟩ := hrel
      have HREL := Lib.hid hrel
      clear hrel
      by_cases hlt : k < W - n
      · have hcell := HB.out.1 (n + k) (by omega)
        cases hf : fB six x (n + k)
        · rw [hf] at hcell
          have hcell' : w1.cell? ⟨g, n + k, none⟩ = some (.int .i64 0) := hcell
          have HF := Lib.hid hf
          clear hcell hf
          go_wp2
          go_round
          case rel => exact ⟨k + 1, by omega, by go_num, fun j h1 h2 => by
            by_cases e : j = n + k
            · rw [e]; exact HF.out
            · exact HREL.out j h1 (by omega)⟩
          case measure => simp [intOf]; omega
        · rw [hf] at hcell
          have hcell' : w1.cell? ⟨g, n + k, none⟩ = some (.int .i64 1) := hcell
          have e5 : r = 5 := by
            rw [← HR.out, if_neg]
            intro hl
            have := LB.out.1 hl (n + k) (by omega) (by omega)
            rw [hf] at this; cases this
          clear hcell hf
          subst e5
          go_wp2
          go_ret
          exact ⟨rfl, b1⟩
      · obtain rfl : k = W - n := by omega
        have e0 : r = 0 := by
          rw [← HR.out, if_pos (LB.out.2 fun j h1 h2 => HREL.out j h1 (by omega))]
        subst e0
        go_wp2
        go_ret
        exact ⟨rfl, b1⟩
  · have e1 : cap = n := by omega
    have e2 : W = n := by omega
    have e0 : r = 0 := by
      rw [← HR.out, if_pos (LB.out.2 fun j h1 h2 => by omega)]
    subst e0
    subst e1
    subst e2
    clear hcap
    go_wp2
    go_loop [28] (fun i => i = .int .i64 0) (fun i => 0)
    case atStart => rfl
    case round =>
      subst hrel
      go_wp2
      go_ret
      exact ⟨rfl, b1⟩
theorem refFault_calls (six : Bool) (x : Nat) (n : Int) (hx : x < 2 ^ 128) (w : World) :
    Calls Try.prog 49 #[.agg #[.bool six, .int .u64 (aH x), .int .u64 (aL x), .int .i64 n]] w fun e w' => e = .returned (.int .i64 (chkE six x n)) ∧ Below w.heap.size w w' := by
  by_cases hv : x < 2 ^ wideN six
  · by_cases hn : 0 ≤ n ∧ n ≤ wideN six
    · obtain ⟨k, rfl⟩ := Int.eq_ofNat_of_zero_le hn.1
      exact refFault_in six x k _ hx hv (by omega) (by unfold chkE; rw [if_pos hv, if_pos hn]; rfl) w
    · rw [show chkE six x n = 2 from by unfold chkE; rw [if_pos hv, if_neg hn]]
      exact refFault_out six x n hx hv (by omega) w
  · rw [show chkE six x n = 4 from by unfold chkE; rw [if_neg hv]]
    exact refFault_form six x n hx hv w
end Go.Proofs.Ytgajepmnklbmpaa
/-
  Contracts of the document's preIn, PreHas.
-/
namespace Go.Proofs.Ytgajepmnklbmpaa
open Go.RowKit
set_option linter.unusedVariables false
set_option linter.unusedSimpArgs false

/-- The first k bits are the same. -/
def SameUpto (six : Bool) (x y k : Nat) : Prop := ∀ j, j < k → fB six x j = fB six y j
theorem bI_inj (a b : Bool) : (bI a == bI b) = (a == b) := by cases a <;> cases b <;> rfl

set_option maxHeartbeats 1000000 in
theorem refIn_calls (six : Bool) (x y n : Nat) (b : Bool) (hx : x < 2 ^ wideN six) (hy : y < 2 ^ wideN six) (hn : n ≤ wideN six) (hb : decide (lowN y (wideN six - n) = lowN x (wideN six - n)) = b) (w : World) :
    Calls Try.prog 71 #[.agg #[.bool six, .int .u64 (aH x), .int .u64 (aL x), .int .i64 n], .agg #[.bool six, .int .u64 (aH y), .int .u64 (aL y)]] w fun e w' => e = .returned (.bool b) ∧ Below w.heap.size w w' := by
  have hW := wideN_le six
  have hx' := lt128 hx
  have hy' := lt128 hy
  have SB := Lib.hid (same_bits six x y n hx hy hn)
  have HB := Lib.hid hb
  obtain ⟨W, hWe⟩ : ∃ W, wideN six = W := ⟨_, rfl⟩
  rw [hWe] at hn hW
  have HWE := Lib.hid hWe
  clear hb hWe
  go_enter Try.func71, Try.ntmps71
  go_wp2_with fail
  refine (bitsOf_num six x hx' _).mono ?_
  rw [HWE.out]
  rintro e w1 ⟨g, cap, rfl, hB1, hg1, hc1, hb1⟩
  have P1 := ((PreAt.new w six (aH x) (aL x) n 63).alloc _).keep hb1
  have A1 := (AddrAt.new (w.alloc (.cells #[.bool six, .int .u64 (aH x), .int .u64 (aL x), .int .i64 n] 63)) six (aH y) (aL y) 61).keep hb1
  have b1 := thenBelow (((Below.refl _ w).alloc (Nat.le_refl _) _).alloc (by simp) _) hb1
  simp only [World.size_alloc] at A1
  obtain ⟨a0, a1, a2, al⟩ := A1
  have HP1 := Lib.hid P1
  have HB1 := Lib.hid hB1
  clear hb1 P1 hB1 hc1 hg1
  go_wp2_with fail
  refine (bitsOf_num six y hy' _).mono ?_
  rw [HWE.out]
  rintro e w2 ⟨g2, cap2, rfl, hB2, hg2, hc2, hb2⟩
  have B1 := Lib.hid (HB1.out.keep hb2)
  have b2 := thenBelow b1 hb2
  obtain ⟨p0, p1, p2, p3, pl⟩ := HP1.out.keep hb2
  have B2 := Lib.hid hB2
  clear hb2 hB2 hc2 hg2 HB1 HP1 a0 a1 a2 al b1
  go_wp2
  go_loopw [7] (fun i wr => ∃ k q : Nat, k ≤ n ∧ i = .int .i64 k ∧ SameUpto six x y k ∧ wr = w2.drewN q) (fun i _ => n - (intOf i).toNat)
  case atStart => exact ⟨0, 0, Nat.zero_le _, rfl, fun j h => by omega, rfl⟩
  case round =>
    obtain ⟨k, q, hk, rfl, hrel, rfl⟩ := hrel
    have HREL := Lib.hid hrel
    clear hrel
    by_cases hlt : k < n
    · have c1 := B1.out.1 k (by omega)
      have c2 := B2.out.1 k (by omega)
      by_cases he : fB six x k = fB six y k
      · have HE := Lib.hid he
        rw [he] at c1
        clear he
        go_wp2_with fail
        go_quiet ((fail))
        go_wp2
        go_roundw
        case rel => exact ⟨k + 1, _, by omega, by go_num, fun j h => by
          by_cases e : j = k
          · rw [e]; exact HE.out
          · exact HREL.out j (by omega), rfl⟩
        case measure => simp [intOf]; omega
      · have n1 : (bI (fB six x k) == bI (fB six y k)) = false := by rw [bI_inj]; simpa using he
        have n2 : (bI (fB six x k) != bI (fB six y k)) = true := by simp [bne, n1]
        have eb : b = false := by
          rw [← HB.out]
          exact decide_eq_false fun hc => he (SB.out.1 hc k hlt)
        subst eb
        clear he
        go_wp2_with fail
        go_quiet ((fail))
        go_wp2
        go_ret
        exact ⟨rfl, below_drewN (below_drewN b2 _) _⟩
    · obtain rfl : k = n := by omega
      have eb : b = true := by
        rw [← HB.out]
        exact decide_eq_true (SB.out.2 HREL.out)
      subst eb
      go_wp2
      go_ret
      exact ⟨rfl, below_drewN b2 _⟩
end Go.Proofs.Ytgajepmnklbmpaa

/-
  Laid together: PreC, TabA, TabM, TabB, PreHasC, RefFault, RefIn, PreE, PreF, CidrA, PreBothC, PreD, CovD.
-/
import Derived.Test.YtifhakoeinalaaaDoorPreB
import Derived.Test.YtifhakoeinalaaaDoorG2
import Derived.Deep.QuietTactic
import Derived.BigQuiet
import Derived.Deep.RegionHeld3
import Derived.Test.YtifhakoeinalaaaDoorG3
import Derived.WalkSmall
import Derived.Test.YtifhakoeinalaaaDoorG1
/-
  Contract of pre.Check (one for all).
-/
namespace Go.Proofs.YtifhakoeinalaaaDoor
open Go.RowKit
set_option linter.unusedVariables false
set_option linter.unusedSimpArgs false

theorem check_calls (six : Bool) (x : Nat) (n : Int) (hx : x < 2 ^ 128) (w : World) :
    Calls Tryd.prog 20 #[.agg #[.bool six, .int .u64 (aH x), .int .u64 (aL x), .int .i64 n]] w fun e w' => e = .returned (.int .i64 (chkE six x n)) ∧ Below w.heap.size w w' := by
  by_cases hv : x < 2 ^ wideN six
  · by_cases hn : 0 ≤ n ∧ n ≤ wideN six
    · obtain ⟨k, rfl⟩ := Int.eq_ofNat_of_zero_le hn.1
      have hk : k ≤ wideN six := by omega
      by_cases hl : lowN x (wideN six - k) = x
      · rw [show chkE six x k = 0 from by unfold chkE; rw [if_pos hv, if_pos hn, if_pos (by simpa using hl)]]
        exact check_ok six x k hx hv hk hl w
      · rw [show chkE six x k = 5 from by unfold chkE; rw [if_pos hv, if_pos hn, if_neg (by simpa using hl)]]
        exact check_bits six x k hx hv hk hl w
    · rw [show chkE six x n = 2 from by unfold chkE; rw [if_pos hv, if_neg hn]]
      by_cases h0 : n < 0
      · exact check_neg six x n hx hv h0 w
      · exact check_big six x n hx hv (by omega) w
  · rw [show chkE six x n = 4 from by unfold chkE; rw [if_neg hv]]
    exact check_form six x n hx hv w
theorem chk0 {six : Bool} {x : Nat} {n : Int} (h : chkE six x n = 0) : x < 2 ^ wideN six ∧ ∃ k : Nat, n = k ∧ k ≤ wideN six ∧ lowN x (wideN six - k) = x := by
  unfold chkE at h
  split at h
  · rename_i hv
    split at h
    · rename_i hn
      split at h
      · rename_i hl; exact ⟨hv, n.toNat, by omega, by omega, hl⟩
      · omega
    · omega
  · omega
theorem chk_mk (six : Bool) (x k : Nat) (hv : x < 2 ^ wideN six) (hk : k ≤ wideN six) (hl : lowN x (wideN six - k) = x) : chkE six x k = 0 := by
  unfold chkE; rw [if_pos hv, if_pos (by omega), if_pos (by simpa using hl)]
theorem lt128 {six : Bool} {x : Nat} (h : x < 2 ^ wideN six) : x < 2 ^ 128 := Nat.lt_of_lt_of_le h (Nat.pow_le_pow_right (by omega) (wideN_le six))

theorem may_num (six : Bool) (x : Nat) (hx : x < 2 ^ 128) (b : Bool) (hb : decide (x < 2 ^ wideN six) = b) (w : World) :
    Calls Tryd.prog 21 #[.agg #[.bool six, .int .u64 (aH x), .int .u64 (aL x)]] w fun e w' => e = .returned (.bool b) ∧ w.alloc (.cells #[.bool six, .int .u64 (aH x), .int .u64 (aL x)] 31) = w' := by
  rw [← hb, ← mayB_num six x hx]
  exact may_calls six _ _ (aH_0 x) (aL_0 x) w

/-- Two numbers are the same, or differ in a word. -/
theorem eq3 (y x : Nat) : y = x ∨ (aH y == aH x) = false ∨ aH y = aH x ∧ (aL y == aL x) = false := by
  by_cases h : aH y = aH x
  · by_cases l : aL y = aL x
    · exact .inl (a_inj h l)
    · exact .inr (.inr ⟨h, by simpa using l⟩)
  · exact .inr (.inl (by simpa using h))
theorem ne_of_h {y x : Nat} (h : (aH y == aH x) = false) : y ≠ x := by rintro rfl; simp at h
theorem ne_of_l {y x : Nat} (h : (aL y == aL x) = false) : y ≠ x := by rintro rfl; simp at h

end Go.Proofs.YtifhakoeinalaaaDoor
/-
  cmp.Compare, cmp.Or and table.compare: the order of prefixes.
-/
namespace Go.Proofs.YtifhakoeinalaaaDoor
open Go.RowKit
set_option linter.unusedVariables false
set_option linter.unusedSimpArgs false

theorem nanU (x : Int) (w : World) : Calls Tryd.prog 53 #[.int .u64 x] w fun e w' => e = .returned (.bool false) ∧ w = w' := by
  go_enter Tryd.func53, Tryd.ntmps53
  go_wp2
  go_ret
  exact ⟨by simp, rfl⟩
theorem nanI (x : Int) (w : World) : Calls Tryd.prog 65 #[.int .i64 x] w fun e w' => e = .returned (.bool false) ∧ w = w' := by
  go_enter Tryd.func65, Tryd.ntmps65
  go_wp2
  go_ret
  exact ⟨by simp, rfl⟩
/-- -1, 0 or 1. -/
def cmpI (x y : Int) : Int := if x < y then -1 else if y < x then 1 else 0
theorem compareU (x y : Int) (w : World) : Calls Tryd.prog 40 #[.int .u64 x, .int .u64 y] w fun e w' => e = .returned (.int .i64 (cmpI x y)) ∧ w = w' := by
  by_cases h1 : x < y
  · rw [show cmpI x y = -1 by unfold cmpI; rw [if_pos h1]]
    go_enter Tryd.func40, Tryd.ntmps40
    go_wp2_with fail
    refine (nanU x _).mono ?_
    rintro e w' ⟨rfl, rfl⟩
    go_wp2_with fail
    refine (nanU y _).mono ?_
    rintro e w' ⟨rfl, rfl⟩
    go_wp2
    go_ret
    exact ⟨rfl, rfl⟩
  by_cases h2 : y < x
  · rw [show cmpI x y = 1 by unfold cmpI; rw [if_neg h1, if_pos h2]]
    go_enter Tryd.func40, Tryd.ntmps40
    go_wp2_with fail
    refine (nanU x _).mono ?_
    rintro e w' ⟨rfl, rfl⟩
    go_wp2_with fail
    refine (nanU y _).mono ?_
    rintro e w' ⟨rfl, rfl⟩
    go_wp2
    go_ret
    exact ⟨rfl, rfl⟩
  · rw [show cmpI x y = 0 by unfold cmpI; rw [if_neg h1, if_neg h2]]
    go_enter Tryd.func40, Tryd.ntmps40
    go_wp2_with fail
    refine (nanU x _).mono ?_
    rintro e w' ⟨rfl, rfl⟩
    go_wp2_with fail
    refine (nanU y _).mono ?_
    rintro e w' ⟨rfl, rfl⟩
    go_wp2
    go_ret
    exact ⟨rfl, rfl⟩
theorem compareI (x y : Int) (w : World) : Calls Tryd.prog 60 #[.int .i64 x, .int .i64 y] w fun e w' => e = .returned (.int .i64 (cmpI x y)) ∧ w = w' := by
  by_cases h1 : x < y
  · rw [show cmpI x y = -1 by unfold cmpI; rw [if_pos h1]]
    go_enter Tryd.func60, Tryd.ntmps60
    go_wp2_with fail
    refine (nanI x _).mono ?_
    rintro e w' ⟨rfl, rfl⟩
    go_wp2_with fail
    refine (nanI y _).mono ?_
    rintro e w' ⟨rfl, rfl⟩
    go_wp2
    go_ret
    exact ⟨rfl, rfl⟩
  by_cases h2 : y < x
  · rw [show cmpI x y = 1 by unfold cmpI; rw [if_neg h1, if_pos h2]]
    go_enter Tryd.func60, Tryd.ntmps60
    go_wp2_with fail
    refine (nanI x _).mono ?_
    rintro e w' ⟨rfl, rfl⟩
    go_wp2_with fail
    refine (nanI y _).mono ?_
    rintro e w' ⟨rfl, rfl⟩
    go_wp2
    go_ret
    exact ⟨rfl, rfl⟩
  · rw [show cmpI x y = 0 by unfold cmpI; rw [if_neg h1, if_neg h2]]
    go_enter Tryd.func60, Tryd.ntmps60
    go_wp2_with fail
    refine (nanI x _).mono ?_
    rintro e w' ⟨rfl, rfl⟩
    go_wp2_with fail
    refine (nanI y _).mono ?_
    rintro e w' ⟨rfl, rfl⟩
    go_wp2
    go_ret
    exact ⟨rfl, rfl⟩
/-- The first that is not 0. -/
def orI (a b c : Int) : Int := if a = 0 then (if b = 0 then c else b) else a
set_option maxHeartbeats 2000000 in
theorem or3 (g : Nat) (a b c : Int) (w : World) (h0 : w.cell? ⟨g, 0, none⟩ = some (.int .i64 a)) (h1 : w.cell? ⟨g, 1, none⟩ = some (.int .i64 b)) (h2 : w.cell? ⟨g, 2, none⟩ = some (.int .i64 c)) :
    Calls Tryd.prog 39 #[.slice (some ⟨g, 0, none⟩) 3 3] w fun e w' => e = .returned (.int .i64 (orI a b c)) ∧ w = w' := by
  by_cases ha : a = 0
  · by_cases hb : b = 0
    · subst ha hb
      show Calls _ _ _ _ fun e w' => e = .returned (.int .i64 c) ∧ w = w'
      by_cases hc : c = 0
      · subst hc
        go_enter Tryd.func39, Tryd.ntmps39
        go_wp2
        go_rounds 4
        go_ret
        exact ⟨rfl, rfl⟩
      · have hc1 : (c == 0) = false := by simpa using hc
        go_enter Tryd.func39, Tryd.ntmps39
        go_wp2
        go_rounds 4
        go_ret
        exact ⟨rfl, rfl⟩
    · have e : orI a b c = b := by unfold orI; rw [if_pos ha, if_neg hb]
      rw [e]
      subst ha
      have hc1 : (b == 0) = false := by simpa using hb
      go_enter Tryd.func39, Tryd.ntmps39
      go_wp2
      go_rounds 4
      go_ret
      exact ⟨rfl, rfl⟩
  · have e : orI a b c = a := by unfold orI; rw [if_neg ha]
    rw [e]
    have hc1 : (a == 0) = false := by simpa using ha
    go_enter Tryd.func39, Tryd.ntmps39
    go_wp2
    go_rounds 4
    go_ret
    exact ⟨rfl, rfl⟩
end Go.Proofs.YtifhakoeinalaaaDoor
/-
  Plain mathematics of routing tables: the order of prefixes, lists in this order, where a prefix stands in one.
-/
namespace Go.Proofs.YtifhakoeinalaaaDoor
set_option linter.unusedVariables false
set_option linter.unusedSimpArgs false

/-- A prefix: family, address, Len. -/
abbrev PK := Bool × Nat × Int
/-- A route: its prefix and its hop. -/
abbrev RT := PK × Int
/-- One prefix stands ahead of another one. -/
def ltK (p q : PK) : Prop := (p.1 = false ∧ q.1 = true) ∨ (p.1 = q.1 ∧ (p.2.1 < q.2.1 ∨ (p.2.1 = q.2.1 ∧ p.2.2 < q.2.2)))
instance (p q : PK) : Decidable (ltK p q) := by unfold ltK; infer_instance
theorem ltK_irrefl (p : PK) : ¬ ltK p p := by unfold ltK; rintro (⟨a, b⟩ | ⟨_, h | ⟨_, h⟩⟩) <;> (try omega); rw [a] at b; cases b
theorem ltK_trans {p q r : PK} (h : ltK p q) (g : ltK q r) : ltK p r := by
  unfold ltK at *
  rcases h with ⟨a, b⟩ | ⟨a, h⟩ <;> rcases g with ⟨c, d⟩ | ⟨c, g⟩
  · exact .inl ⟨a, d⟩
  · exact .inl ⟨a, c ▸ b⟩
  · exact .inl ⟨a.trans c, d⟩
  · exact .inr ⟨a.trans c, by omega⟩
theorem ltK_or (p q : PK) : ltK p q ∨ p = q ∨ ltK q p := by
  obtain ⟨s, x, n⟩ := p
  obtain ⟨t, y, m⟩ := q
  unfold ltK
  cases s <;> cases t <;> simp
  all_goals omega
theorem ltK_asymm {p q : PK} (h : ltK p q) : ¬ ltK q p := fun g => ltK_irrefl p (ltK_trans h g)
theorem ltK_ne {p q : PK} (h : ltK p q) : p ≠ q := fun e => ltK_irrefl q (e ▸ h)
/-- What table.compare says. -/
def cmpK (p q : PK) : Int := if ltK p q then -1 else if p = q then 0 else 1
theorem cmpK_neg (p q : PK) : cmpK p q < 0 ↔ ltK p q := by
  unfold cmpK
  split
  · simp [*]
  · split
    · rename_i h _; exact ⟨fun h => by omega, fun g => absurd g h⟩
    · rename_i h _; exact ⟨fun h => by omega, fun g => absurd g h⟩
theorem cmpK_zero (p q : PK) : cmpK p q = 0 ↔ p = q := by
  unfold cmpK
  split
  · rename_i h; simp; exact ltK_ne h
  · split <;> simp [*]
/-- Routes in the order of their prefixes, none twice. -/
def SortedR (l : List RT) : Prop := l.Pairwise fun a b => ltK a.1 b.1
/-- How many stand ahead of a prefix. -/
def posR (l : List RT) (p : PK) : Nat := l.countP fun r => decide (ltK r.1 p)
def hasR (l : List RT) (p : PK) : Bool := l.any fun r => decide (r.1 = p)
theorem posR_le (l : List RT) (p : PK) : posR l p ≤ l.length := List.countP_le_length
theorem SortedR.lt {l : List RT} (h : SortedR l) {i j : Nat} (hij : i < j) (hj : j < l.length) : ltK (l[i]'(by omega)).1 l[j].1 :=
  List.pairwise_iff_getElem.1 h i j (by omega) hj hij
/-- A place that has all smaller ones ahead of it is the place. -/
theorem posR_of {l : List RT} {p : PK} (i : Nat) (hi : i ≤ l.length) (h1 : ∀ t (h : t < l.length), t < i → ltK l[t].1 p) (h2 : ∀ t (h : t < l.length), i ≤ t → ¬ ltK l[t].1 p) : posR l p = i := by
  have e : l = l.take i ++ l.drop i := (List.take_append_drop i l).symm
  unfold posR
  rw [e, List.countP_append]
  have a : (l.take i).countP (fun r => decide (ltK r.1 p)) = i := by
    rw [List.countP_eq_length.2, List.length_take, Nat.min_eq_left hi]
    intro r hr
    obtain ⟨t, ht, rfl⟩ := List.getElem_of_mem hr
    rw [List.length_take] at ht
    rw [List.getElem_take]
    exact decide_eq_true (h1 t (by omega) (by omega))
  have b : (l.drop i).countP (fun r => decide (ltK r.1 p)) = 0 := by
    rw [List.countP_eq_zero]
    intro r hr
    obtain ⟨t, ht, rfl⟩ := List.getElem_of_mem hr
    rw [List.length_drop] at ht
    rw [List.getElem_drop]
    simpa using h2 (i + t) (by omega) (by omega)
  rw [a, b, Nat.add_zero]
theorem SortedR.before {l : List RT} (h : SortedR l) {p : PK} {t : Nat} (ht : t < l.length) (hlt : t < posR l p) : ltK l[t].1 p := by
  refine Classical.byContradiction fun hn => ?_
  have : posR l p ≤ t := by
    unfold posR
    have e : l = l.take t ++ l.drop t := (List.take_append_drop t l).symm
    rw [e, List.countP_append]
    have a : (l.take t).countP (fun r => decide (ltK r.1 p)) ≤ t := Nat.le_trans List.countP_le_length (by rw [List.length_take]; omega)
    have b : (l.drop t).countP (fun r => decide (ltK r.1 p)) = 0 := by
      rw [List.countP_eq_zero]
      intro r hr
      obtain ⟨s, hs, rfl⟩ := List.getElem_of_mem hr
      rw [List.length_drop] at hs
      rw [List.getElem_drop]
      simp
      intro hq
      by_cases h0 : s = 0
      · subst h0; exact hn (by simpa using hq)
      · exact hn (ltK_trans (h.lt (show t < t + s by omega) (by omega)) hq)
    omega
  omega
theorem SortedR.behind {l : List RT} (h : SortedR l) {p : PK} {t : Nat} (ht : t < l.length) (hge : posR l p ≤ t) : ¬ ltK l[t].1 p := by
  intro hq
  have : t + 1 ≤ posR l p := by
    unfold posR
    have e : l = l.take (t + 1) ++ l.drop (t + 1) := (List.take_append_drop (t + 1) l).symm
    rw [e, List.countP_append]
    have a : (l.take (t + 1)).countP (fun r => decide (ltK r.1 p)) = t + 1 := by
      rw [List.countP_eq_length.2, List.length_take, Nat.min_eq_left (by omega)]
      intro r hr
      obtain ⟨s, hs, rfl⟩ := List.getElem_of_mem hr
      rw [List.length_take] at hs
      rw [List.getElem_take]
      refine decide_eq_true ?_
      by_cases h0 : s = t
      · subst h0; exact hq
      · exact ltK_trans (h.lt (show s < t by omega) ht) hq
    omega
  omega
/-- The place is the prefix's own, just if it is there. -/
theorem SortedR.found {l : List RT} (h : SortedR l) {p : PK} : hasR l p = true ↔ ∃ ht : posR l p < l.length, (l[posR l p]'ht).1 = p := by
  constructor
  · intro hh
    obtain ⟨r, hr, e⟩ := List.any_eq_true.1 hh
    obtain ⟨t, ht, rfl⟩ := List.getElem_of_mem hr
    have e := of_decide_eq_true e
    have : posR l p = t := posR_of t (by omega) (fun s hs hst => e ▸ h.lt hst ht) (fun s hs hst => by
      by_cases h0 : s = t
      · subst h0; rw [e]; exact ltK_irrefl _
      · exact fun hq => ltK_asymm hq (e ▸ h.lt (show t < s by omega) hs))
    exact ⟨by omega, by simp only [this]; exact e⟩
  · rintro ⟨ht, e⟩
    exact List.any_eq_true.2 ⟨_, List.getElem_mem ht, decide_eq_true e⟩
/-- A route put at its place. -/
def insR (l : List RT) (r : RT) : List RT := l.take (posR l r.1) ++ r :: l.drop (posR l r.1)
theorem insR_len (l : List RT) (r : RT) : (insR l r).length = l.length + 1 := by
  have := posR_le l r.1
  simp [insR]; omega
theorem insR_mem {l : List RT} {r x : RT} : x ∈ insR l r ↔ x = r ∨ x ∈ l := by
  conv => rhs; rw [← List.take_append_drop (posR l r.1) l]
  unfold insR
  simp only [List.mem_append, List.mem_cons]
  constructor
  · rintro (h | h | h) <;> simp [h]
  · rintro (h | h | h) <;> simp [h]
theorem SortedR.ins {l : List RT} (h : SortedR l) {r : RT} (hn : hasR l r.1 = false) : SortedR (insR l r) := by
  unfold insR SortedR
  have hb : ∀ a ∈ l.take (posR l r.1), ltK a.1 r.1 := fun a ha => by
    obtain ⟨t, ht, rfl⟩ := List.getElem_of_mem ha
    rw [List.length_take] at ht
    rw [List.getElem_take]
    exact h.before (by omega) (by omega)
  have hd : ∀ a ∈ l.drop (posR l r.1), ltK r.1 a.1 := fun a ha => by
    obtain ⟨t, ht, rfl⟩ := List.getElem_of_mem ha
    rw [List.length_drop] at ht
    rw [List.getElem_drop]
    have h1 := h.behind (p := r.1) (t := posR l r.1 + t) (by omega) (by omega)
    rcases ltK_or (l[posR l r.1 + t]).1 r.1 with g | g | g
    · exact absurd g h1
    · exfalso
      have : hasR l r.1 = true := List.any_eq_true.2 ⟨_, List.getElem_mem (by omega : posR l r.1 + t < l.length), decide_eq_true g⟩
      rw [hn] at this; cases this
    · exact g
  rw [List.pairwise_append]
  refine ⟨h.sublist (List.take_sublist _ _), List.pairwise_cons.2 ⟨hd, h.sublist (List.drop_sublist _ _)⟩, fun a ha b hb' => ?_⟩
  rcases List.mem_cons.1 hb' with rfl | hb'
  · exact hb a ha
  · exact ltK_trans (hb a ha) (hd b hb')
theorem hasR_ins (l : List RT) (r : RT) (p : PK) : hasR (insR l r) p = (decide (r.1 = p) || hasR l p) := by
  rw [Bool.eq_iff_iff]
  simp only [hasR, List.any_eq_true, Bool.or_eq_true, insR_mem, decide_eq_true_eq]
  constructor
  · rintro ⟨x, rfl | h, e⟩
    · exact .inl e
    · exact .inr ⟨x, h, e⟩
  · rintro (e | ⟨x, h, e⟩)
    · exact ⟨r, .inl rfl, e⟩
    · exact ⟨x, .inr h, e⟩
/-- The words of two addresses stand as the addresses do. -/
theorem words_lt (x y : Nat) : x < y ↔ aH x < aH y ∨ aH x = aH y ∧ aL x < aL y := by unfold aH aL; omega
theorem words_eq (x y : Nat) : x = y ↔ aH x = aH y ∧ aL x = aL y := by unfold aH aL; omega
end Go.Proofs.YtifhakoeinalaaaDoor
/-
  table.compare: the order of prefixes.
-/
namespace Go.Proofs.YtifhakoeinalaaaDoor
open Go.RowKit
set_option linter.unusedVariables false
set_option linter.unusedSimpArgs false

theorem compare_words (s : Bool) (x y : Nat) (n m : Int) : orI (cmpI (aH x) (aH y)) (cmpI (aL x) (aL y)) (cmpI n m) = cmpK (s, x, n) (s, y, m) := by
  have hl := words_lt x y
  have he := words_eq x y
  have hr := words_lt y x
  unfold orI cmpI cmpK ltK
  simp only [Prod.mk.injEq, true_and]
  rcases Int.lt_trichotomy (aH x) (aH y) with h | h | h
  · have : x < y := hl.2 (.inl h)
    simp [h, this]
  · rcases Int.lt_trichotomy (aL x) (aL y) with g | g | g
    · have : x < y := hl.2 (.inr ⟨h, g⟩)
      simp [h, g, this]
    · have : x = y := he.2 ⟨h, g⟩
      subst this
      rcases Int.lt_trichotomy n m with k | k | k
      · simp [k]
      · simp [k]
      · have k1 : ¬ n < m := by omega
        have k2 : ¬ n = m := by omega
        simp [k, k1, k2]
    · have : y < x := hr.2 (.inr ⟨h.symm, g⟩)
      have g1 : ¬ aL x < aL y := by omega
      have k1 : ¬ x < y := by omega
      have k2 : ¬ x = y := by omega
      simp [h, g, g1, k1, k2]
  · have : y < x := hr.2 (.inl h)
    have g1 : ¬ aH x < aH y := by omega
    have k1 : ¬ x < y := by omega
    have k2 : ¬ x = y := by omega
    simp [h, g1, k1, k2]
set_option maxHeartbeats 2000000 in
theorem compare_same (s : Bool) (x y : Nat) (n m : Int) (w : World) :
    Calls Tryd.prog 49 #[.agg #[.bool s, .int .u64 (aH x), .int .u64 (aL x), .int .i64 n], .agg #[.bool s, .int .u64 (aH y), .int .u64 (aL y), .int .i64 m]] w fun e w' => e = .returned (.int .i64 (cmpK (s, x, n) (s, y, m))) ∧ Below w.heap.size w w' := by
  rw [← compare_words]
  have P1 := (PreAt.new w s (aH x) (aL x) n 33).alloc (.cells #[.bool s, .int .u64 (aH y), .int .u64 (aL y), .int .i64 m] 33)
  have P2 := PreAt.new (w.alloc (.cells #[.bool s, .int .u64 (aH x), .int .u64 (aL x), .int .i64 n] 33)) s (aH y) (aL y) m 33
  have b1 := ((Below.refl _ w).alloc (Nat.le_refl _) (.cells #[.bool s, .int .u64 (aH x), .int .u64 (aL x), .int .i64 n] 33)).alloc (by simp) (.cells #[.bool s, .int .u64 (aH y), .int .u64 (aL y), .int .i64 m] 33)
  simp only [World.size_alloc] at P2
  go_enter Tryd.func49, Tryd.ntmps49
  go_wp2_with fail
  revert P1 P2 b1
  generalize (w.alloc (.cells #[.bool s, .int .u64 (aH x), .int .u64 (aL x), .int .i64 n] 33)).alloc (.cells #[.bool s, .int .u64 (aH y), .int .u64 (aL y), .int .i64 m] 33) = Y
  intro P1 b1 P2
  obtain ⟨p0, p1, p2, p3, pl⟩ := P1
  obtain ⟨q0, q1, q2, q3, ql⟩ := P2
  have A : ∀ (o : Obj) (b j : Nat) (u : Value), b < Y.heap.size → Y.cell? ⟨b, j, none⟩ = some u → (Y.alloc o).cell? ⟨b, j, none⟩ = some u := fun o b j u hb h => (((Below.refl Y.heap.size Y).alloc (Nat.le_refl _) o).cell (p := ⟨b, j, none⟩) hb).trans h
  have a1 := fun o => A o _ _ _ pl p1
  have a2 := fun o => A o _ _ _ pl p2
  have a3 := fun o => A o _ _ _ pl p3
  have a4 := fun o => A o _ _ _ ql q1
  have a5 := fun o => A o _ _ _ ql q2
  have a6 := fun o => A o _ _ _ ql q3
  clear A
  go_region_held3 (fun w' => w'.cell? ⟨w.heap.size, 1, none⟩ = some (.int .u64 (aH x)) ∧ w'.cell? ⟨w.heap.size, 2, none⟩ = some (.int .u64 (aL x)) ∧ w'.cell? ⟨w.heap.size, 3, none⟩ = some (.int .i64 n) ∧ w'.cell? ⟨w.heap.size + 1, 1, none⟩ = some (.int .u64 (aH y)) ∧ w'.cell? ⟨w.heap.size + 1, 2, none⟩ = some (.int .u64 (aL y)) ∧ w'.cell? ⟨w.heap.size + 1, 3, none⟩ = some (.int .i64 m))
    (first
      | (simp [go_sem, p1, p2, p3, q1, q2, q3]; done)
      | (simp only [World.cell?_drew]; exact ⟨a1 _, a2 _, a3 _, a4 _, a5 _, a6 _⟩)
      | exact ⟨a1 _, a2 _, a3 _, a4 _, a5 _, a6 _⟩
      | fail)
    (first
      | (go_at_call 40; with_reducible refine (compareU (aH x) (aH y) _).mono ?_; rintro e wa ⟨rfl, rfl⟩)
      | (go_at_call 40; with_reducible refine (compareU (aL x) (aL y) _).mono ?_; rintro e wa ⟨rfl, rfl⟩)
      | (go_at_call 60; with_reducible refine (compareI n m _).mono ?_; rintro e wa ⟨rfl, rfl⟩)
      | (go_at_call 39; refine (or3 Y.heap.size (cmpI (aH x) (aH y)) (cmpI (aL x) (aL y)) (cmpI n m) _ (by simp [go_sem]) (by simp [go_sem]) (by simp [go_sem])).mono ?_; rintro e wa ⟨rfl, rfl⟩)
      | fail)
  all_goals go_wp2
  all_goals go_ret
  all_goals exact ⟨rfl, by go_grown⟩
end Go.Proofs.YtifhakoeinalaaaDoor
/-
  Contracts of pre.Has.
-/
namespace Go.Proofs.YtifhakoeinalaaaDoor
open Go.RowKit
set_option linter.unusedVariables false
set_option linter.unusedSimpArgs false

set_option maxHeartbeats 400000 in
theorem has_err (six s2 : Bool) (x : Nat) (n : Int) (y1 y2 e0 : Int) (hx : x < 2 ^ 128) (hc : chkE six x n = e0) (he : (e0 == 0) = false) (w : World) :
    Calls Tryd.prog 10 #[.agg #[.bool six, .int .u64 (aH x), .int .u64 (aL x), .int .i64 n], .agg #[.bool s2, .int .u64 y1, .int .u64 y2]] w fun e w' => e = .returned (.tuple #[.bool false, .int .i64 e0]) ∧ Below w.heap.size w w' := by
  have C := Lib.hid hc
  clear hc
  go_enter Tryd.func10, Tryd.ntmps10
  go_wp2_with fail
  refine (check_calls six x n hx _).mono ?_
  rw [C.out]
  rintro e w1 ⟨rfl, hb1⟩
  have b1 := thenBelow (((Below.refl _ w).alloc (Nat.le_refl _) _).alloc (by simp) _) hb1
  clear hb1
  go_wp2
  go_ret2
  exact ⟨rfl, b1⟩

set_option maxHeartbeats 400000 in
theorem has_form (six s2 : Bool) (x y : Nat) (n : Int) (hx : x < 2 ^ 128) (hy : y < 2 ^ 128) (hc : chkE six x n = 0) (hv : ¬ y < 2 ^ wideN s2) (w : World) :
    Calls Tryd.prog 10 #[.agg #[.bool six, .int .u64 (aH x), .int .u64 (aL x), .int .i64 n], .agg #[.bool s2, .int .u64 (aH y), .int .u64 (aL y)]] w fun e w' => e = .returned (.tuple #[.bool false, .int .i64 4]) ∧ Below w.heap.size w w' := by
  have C := Lib.hid hc
  clear hc
  go_enter Tryd.func10, Tryd.ntmps10
  go_wp2_with fail
  refine (check_calls six x n hx _).mono ?_
  rw [C.out]
  rintro e w1 ⟨rfl, hb1⟩
  have b1 := thenBelow (((Below.refl _ w).alloc (Nat.le_refl _) _).alloc (by simp) _) hb1
  obtain ⟨a0, a1, a2, al⟩ := (AddrAt.new (w.alloc (.cells #[.bool six, .int .u64 (aH x), .int .u64 (aL x), .int .i64 n] 33)) s2 (aH y) (aL y) 31).keep hb1
  simp at a0 a1 a2 al
  clear hb1
  go_wp2_with fail
  refine (may_num s2 y hy false (decide_eq_false hv) _).mono ?_
  rintro e w2 ⟨rfl, rfl⟩
  go_wp2
  go_ret2
  exact ⟨rfl, b1.alloc b1.size _⟩

set_option maxHeartbeats 400000 in
theorem has_fam (six s2 : Bool) (x y : Nat) (n : Int) (hs : (!six == s2) = true) (hx : x < 2 ^ 128) (hy : y < 2 ^ 128) (hc : chkE six x n = 0) (hv : y < 2 ^ wideN s2) (w : World) :
    Calls Tryd.prog 10 #[.agg #[.bool six, .int .u64 (aH x), .int .u64 (aL x), .int .i64 n], .agg #[.bool s2, .int .u64 (aH y), .int .u64 (aL y)]] w fun e w' => e = .returned (.tuple #[.bool false, .int .i64 6]) ∧ Below w.heap.size w w' := by
  have C := Lib.hid hc
  clear hc
  go_enter Tryd.func10, Tryd.ntmps10
  go_wp2_with fail
  refine (check_calls six x n hx _).mono ?_
  rw [C.out]
  rintro e w1 ⟨rfl, hb1⟩
  have b1 := thenBelow (((Below.refl _ w).alloc (Nat.le_refl _) _).alloc (by simp) _) hb1
  obtain ⟨a0, a1, a2, al⟩ := (AddrAt.new (w.alloc (.cells #[.bool six, .int .u64 (aH x), .int .u64 (aL x), .int .i64 n] 33)) s2 (aH y) (aL y) 31).keep hb1
  obtain ⟨p0, p1, p2, p3, pl⟩ := ((PreAt.new w six (aH x) (aL x) n 33).alloc _).keep hb1
  simp at a0 a1 a2 al
  clear hb1
  go_wp2_with fail
  refine (may_num s2 y hy true (decide_eq_true hv) _).mono ?_
  rintro e w2 ⟨rfl, rfl⟩
  go_wp2
  go_ret2
  exact ⟨rfl, b1.alloc b1.size _⟩

set_option maxHeartbeats 1000000 in
theorem has_ok (six : Bool) (x y n z : Nat) (b : Bool) (hx : x < 2 ^ 128) (hy : y < 2 ^ 128) (hc : chkE six x n = 0) (hn : n ≤ wideN six) (hv : y < 2 ^ wideN six) (hz : lowN y (wideN six - n) = z) (hb : decide (z = x) = b) (w : World) :
    Calls Tryd.prog 10 #[.agg #[.bool six, .int .u64 (aH x), .int .u64 (aL x), .int .i64 n], .agg #[.bool six, .int .u64 (aH y), .int .u64 (aL y)]] w fun e w' => e = .returned (.tuple #[.bool b, .int .i64 0]) ∧ Below w.heap.size w w' := by
  have C := Lib.hid hc
  have Z := Lib.hid hz
  have B := Lib.hid hb
  clear hc hz hb
  go_enter Tryd.func10, Tryd.ntmps10
  go_wp2_with fail
  refine (check_calls six x n hx _).mono ?_
  rw [C.out]
  rintro e w1 ⟨rfl, hb1⟩
  have b1 := thenBelow (((Below.refl _ w).alloc (Nat.le_refl _) _).alloc (by simp) _) hb1
  obtain ⟨a0, a1, a2, al⟩ := (AddrAt.new (w.alloc (.cells #[.bool six, .int .u64 (aH x), .int .u64 (aL x), .int .i64 n] 33)) six (aH y) (aL y) 31).keep hb1
  obtain ⟨p0, p1, p2, p3, pl⟩ := ((PreAt.new w six (aH x) (aL x) n 33).alloc _).keep hb1
  simp at a0 a1 a2 al
  clear hb1
  go_wp2_with fail
  refine (may_num six y hy true (decide_eq_true hv) _).mono ?_
  rintro e w2 ⟨rfl, rfl⟩
  go_wp2_with fail
  rcases eq3 z x with h | h | ⟨h1, h⟩
  · go_region_held3 (fun w' => (w'.cell? ⟨w.heap.size + 1, 0, none⟩ = some (.bool six) ∧ w'.cell? ⟨w.heap.size + 1, 1, none⟩ = some (.int .u64 (aH y)) ∧ w'.cell? ⟨w.heap.size + 1, 2, none⟩ = some (.int .u64 (aL y))) ∧ w'.cell? ⟨w.heap.size, 0, none⟩ = some (.bool six) ∧ w'.cell? ⟨w.heap.size, 1, none⟩ = some (.int .u64 (aH x)) ∧ w'.cell? ⟨w.heap.size, 2, none⟩ = some (.int .u64 (aL x)) ∧ w'.cell? ⟨w.heap.size, 3, none⟩ = some (.int .i64 n)) (simp (disch := first | assumption | (simp; omega)) [go_sem, World.cell?_alloc_past, a0, a1, a2, p0, p1, p2, p3])
      ((go_at_call 22; refine (start_calls six y n hy hn _).mono ?_; rintro e w' ⟨rfl, rfl⟩; rw [Z.out, h]))
    go_wp2
    go_ret2
    exact ⟨by rw [← B.out, h]; simp, by go_grown⟩
  · go_region_held3 (fun w' => (w'.cell? ⟨w.heap.size + 1, 0, none⟩ = some (.bool six) ∧ w'.cell? ⟨w.heap.size + 1, 1, none⟩ = some (.int .u64 (aH y)) ∧ w'.cell? ⟨w.heap.size + 1, 2, none⟩ = some (.int .u64 (aL y))) ∧ w'.cell? ⟨w.heap.size, 0, none⟩ = some (.bool six) ∧ w'.cell? ⟨w.heap.size, 1, none⟩ = some (.int .u64 (aH x)) ∧ w'.cell? ⟨w.heap.size, 2, none⟩ = some (.int .u64 (aL x)) ∧ w'.cell? ⟨w.heap.size, 3, none⟩ = some (.int .i64 n)) (simp (disch := first | assumption | (simp; omega)) [go_sem, World.cell?_alloc_past, a0, a1, a2, p0, p1, p2, p3])
      ((go_at_call 22; refine (start_calls six y n hy hn _).mono ?_; rintro e w' ⟨rfl, rfl⟩; rw [Z.out]))
    go_wp2
    go_ret2
    exact ⟨by rw [← B.out, decide_eq_false (ne_of_h h)]; rfl, by go_grown⟩
  · have H1 := Lib.hid h1
    clear h1
    go_region_held3 (fun w' => (w'.cell? ⟨w.heap.size + 1, 0, none⟩ = some (.bool six) ∧ w'.cell? ⟨w.heap.size + 1, 1, none⟩ = some (.int .u64 (aH y)) ∧ w'.cell? ⟨w.heap.size + 1, 2, none⟩ = some (.int .u64 (aL y))) ∧ w'.cell? ⟨w.heap.size, 0, none⟩ = some (.bool six) ∧ w'.cell? ⟨w.heap.size, 1, none⟩ = some (.int .u64 (aH x)) ∧ w'.cell? ⟨w.heap.size, 2, none⟩ = some (.int .u64 (aL x)) ∧ w'.cell? ⟨w.heap.size, 3, none⟩ = some (.int .i64 n)) (simp (disch := first | assumption | (simp; omega)) [go_sem, World.cell?_alloc_past, a0, a1, a2, p0, p1, p2, p3])
      ((go_at_call 22; refine (start_calls six y n hy hn _).mono ?_; rintro e w' ⟨rfl, rfl⟩; rw [Z.out, H1.out]))
    go_wp2
    go_ret2
    exact ⟨by rw [← B.out, decide_eq_false (ne_of_l h)]; rfl, by go_grown⟩

end Go.Proofs.YtifhakoeinalaaaDoor
/-
  The contract of the document's PreFault.
-/
namespace Go.Proofs.YtifhakoeinalaaaDoor
open Go.RowKit
set_option linter.unusedVariables false
set_option linter.unusedSimpArgs false

/-- No bit from n on, among k. -/
def FaultUpto (six : Bool) (x n k : Nat) : Prop := ∀ j, n ≤ j → j < n + k → fB six x j = false
end Go.Proofs.YtifhakoeinalaaaDoor
/-
  Contracts of the document's preIn, PreHas.
-/
namespace Go.Proofs.YtifhakoeinalaaaDoor
open Go.RowKit
set_option linter.unusedVariables false
set_option linter.unusedSimpArgs false

/-- The first k bits are the same. -/
def SameUpto (six : Bool) (x y k : Nat) : Prop := ∀ j, j < k → fB six x j = fB six y j
theorem bI_inj (a b : Bool) : (bI a == bI b) = (a == b) := by cases a <;> cases b <;> rfl

end Go.Proofs.YtifhakoeinalaaaDoor
/-
  Contracts of pre.Span.
-/
namespace Go.Proofs.YtifhakoeinalaaaDoor
open Go.RowKit
set_option linter.unusedVariables false
set_option linter.unusedSimpArgs false

set_option maxHeartbeats 400000 in
theorem span_err (six : Bool) (x : Nat) (n e0 : Int) (hx : x < 2 ^ 128) (hc : chkE six x n = e0) (he : (e0 == 0) = false) (w : World) :
    Calls Tryd.prog 41 #[.agg #[.bool six, .int .u64 (aH x), .int .u64 (aL x), .int .i64 n]] w fun e w' => e = .returned (.tuple #[.agg #[.bool false, .int .u64 0, .int .u64 0], .agg #[.bool false, .int .u64 0, .int .u64 0], .int .i64 e0]) ∧ Below w.heap.size w w' := by
  have C := Lib.hid hc
  clear hc
  go_enter Tryd.func41, Tryd.ntmps41
  go_wp2_with fail
  refine (check_calls six x n hx _).mono ?_
  rw [C.out]
  rintro e w1 ⟨rfl, hb1⟩
  have b1 := thenBelow ((((Below.refl _ w).alloc (Nat.le_refl _) _).alloc (by simp) _).alloc (by simp; omega) _) hb1
  have R := ((AddrV.new (w.alloc (.cells #[.bool six, .int .u64 (aH x), .int .u64 (aL x), .int .i64 n] 33)) false 0 0 31).alloc _).keep hb1
  have T := (AddrV.new ((w.alloc (.cells #[.bool six, .int .u64 (aH x), .int .u64 (aL x), .int .i64 n] 33)).alloc (.cells #[.bool false, .int .u64 0, .int .u64 0] 31)) false 0 0 31).keep hb1
  obtain ⟨⟨r0, r1, r2, rl⟩, rf⟩ := R
  obtain ⟨⟨t0, t1, t2, tl⟩, tf⟩ := T
  simp at r0 r1 r2 rl rf t0 t1 t2 tl tf
  have f0 := rf 0; have f1 := rf 1; have f2 := rf 2
  have g0 := tf 0; have g1 := tf 1; have g2 := tf 2
  clear hb1 rf tf
  go_wp2
  try simp only [Exit.inBlock, Exit.then]
  refine bodyPost_ret (by simp [results, Tryd.results41, go_sem, r0, r1, r2, t0, t1, t2]; try rfl) rfl ?_
  exact ⟨rfl, (((((b1.setCell (by simp) _).setCell (by simp) _).setCell (by simp) _).setCell (by simp; omega) _).setCell (by simp; omega) _).setCell (by simp; omega) _⟩
set_option maxHeartbeats 400000 in
theorem span_ok (six : Bool) (x n : Nat) (hx : x < 2 ^ 128) (hn : n ≤ wideN six) (hc : chkE six x n = 0) (w : World) :
    Calls Tryd.prog 41 #[.agg #[.bool six, .int .u64 (aH x), .int .u64 (aL x), .int .i64 n]] w fun e w' => e = .returned (.tuple #[.agg #[.bool six, .int .u64 (aH x), .int .u64 (aL x)], .agg #[.bool six, .int .u64 (aH (topN x (wideN six - n))), .int .u64 (aL (topN x (wideN six - n)))], .int .i64 0]) ∧ Below w.heap.size w w' := by
  have C := Lib.hid hc
  clear hc
  go_enter Tryd.func41, Tryd.ntmps41
  go_wp2_with fail
  refine (check_calls six x n hx _).mono ?_
  rw [C.out]
  rintro e w1 ⟨rfl, hb1⟩
  have b1 := thenBelow ((((Below.refl _ w).alloc (Nat.le_refl _) _).alloc (by simp) _).alloc (by simp; omega) _) hb1
  have P := (((PreAt.new w six (aH x) (aL x) n 33).alloc _).alloc _).keep hb1
  have R := ((AddrV.new (w.alloc (.cells #[.bool six, .int .u64 (aH x), .int .u64 (aL x), .int .i64 n] 33)) false 0 0 31).alloc _).keep hb1
  have T := (AddrV.new ((w.alloc (.cells #[.bool six, .int .u64 (aH x), .int .u64 (aL x), .int .i64 n] 33)).alloc (.cells #[.bool false, .int .u64 0, .int .u64 0] 31)) false 0 0 31).keep hb1
  obtain ⟨p0, p1, p2, p3, pl⟩ := P
  have HR := Lib.hid R
  have HT := Lib.hid T
  obtain ⟨⟨r0, r1, r2, rl⟩, rf⟩ := R
  obtain ⟨⟨t0, t1, t2, tl⟩, tf⟩ := T
  simp at r0 r1 r2 rl rf t0 t1 t2 tl tf
  have f0 := rf 0; have f1 := rf 1; have f2 := rf 2
  have g0 := tf 0; have g1 := tf 1; have g2 := tf 2
  clear hb1 rf tf
  go_wp2_with fail
  go_region_held3 (fun w' => w'.cell? ⟨w.heap.size, 0, none⟩ = some (.bool six) ∧ w'.cell? ⟨w.heap.size, 1, none⟩ = some (.int .u64 (aH x)) ∧ w'.cell? ⟨w.heap.size, 2, none⟩ = some (.int .u64 (aL x)) ∧ w'.cell? ⟨w.heap.size, 3, none⟩ = some (.int .i64 n)) (simp (disch := first | assumption | (simp; done) | (simp; omega)) [go_sem, World.cell?_alloc_past, World.cell?_setCell_far, p0, p1, p2, p3])
      ((go_at_call 54; refine (pend_calls six x n hx hn _).mono ?_; rintro e w' ⟨rfl, rfl⟩))
  rename_i K hK hH
  clear hH
  refine hK _ _ (wp_ret ?_)
  have hs := b1.size
  have BW := (((((((((b1.setCell (p := ⟨w.heap.size + 1, 0, none⟩) (by simp) (.bool six)).setCell (p := ⟨w.heap.size + 1, 1, none⟩) (by simp) (.int .u64 (aH x))).setCell (p := ⟨w.heap.size + 1, 2, none⟩) (by simp) (.int .u64 (aL x))).setCell (p := ⟨w.heap.size + 1 + 1, 0, none⟩) (by simp; omega) (.bool six)).setCell (p := ⟨w.heap.size + 1 + 1, 1, none⟩) (by simp; omega) (.int .u64 (aH (topN x (wideN six - n))))).setCell (p := ⟨w.heap.size + 1 + 1, 2, none⟩) (by simp; omega) (.int .u64 (aL (topN x (wideN six - n))))).alloc (by simp; omega) (.cells #[.bool six, .int .u64 (aH (topN x (wideN six - n))), .int .u64 (aL (topN x (wideN six - n)))] 31)).alloc (by simp; omega) (.cells #[.bool six, .int .u64 (aH (topN x (wideN six - n))), .int .u64 (aL (topN x (wideN six - n)))] 31)).alloc (by simp; omega) (.cells #[.bool six, .int .u64 (aH x), .int .u64 (aL x)] 31)).drew
  have RW := ((((((((HR.out.store six (aH x) (aL x)).far (p := ⟨w.heap.size + 1 + 1, 0, none⟩) (by simp) (.bool six)).far (p := ⟨w.heap.size + 1 + 1, 1, none⟩) (by simp) (.int .u64 (aH (topN x (wideN six - n))))).far (p := ⟨w.heap.size + 1 + 1, 2, none⟩) (by simp) (.int .u64 (aL (topN x (wideN six - n))))).alloc (.cells #[.bool six, .int .u64 (aH (topN x (wideN six - n))), .int .u64 (aL (topN x (wideN six - n)))] 31)).alloc (.cells #[.bool six, .int .u64 (aH (topN x (wideN six - n))), .int .u64 (aL (topN x (wideN six - n)))] 31)).alloc (.cells #[.bool six, .int .u64 (aH x), .int .u64 (aL x)] 31)).drew)
  have TW := ((((((HT.out.far (p := ⟨w.heap.size + 1, 0, none⟩) (by simp) (.bool six)).far (p := ⟨w.heap.size + 1, 1, none⟩) (by simp) (.int .u64 (aH x))).far (p := ⟨w.heap.size + 1, 2, none⟩) (by simp) (.int .u64 (aL x))).store six (aH (topN x (wideN six - n))) (aL (topN x (wideN six - n)))).alloc (.cells #[.bool six, .int .u64 (aH (topN x (wideN six - n))), .int .u64 (aL (topN x (wideN six - n)))] 31)).alloc (.cells #[.bool six, .int .u64 (aH (topN x (wideN six - n))), .int .u64 (aL (topN x (wideN six - n)))] 31)).alloc (.cells #[.bool six, .int .u64 (aH x), .int .u64 (aL x)] 31)
  have TW := TW.drew
  simp only [World.size_alloc] at RW TW
  revert BW RW TW
  generalize World.drew _ = W
  intro BW RW TW
  obtain ⟨⟨k0, k1, k2, _⟩, _⟩ := RW
  obtain ⟨⟨l0, l1, l2, _⟩, _⟩ := TW
  refine bodyPost_ret (v := .tuple #[.agg #[.bool six, .int .u64 (aH x), .int .u64 (aL x)], .agg #[.bool six, .int .u64 (aH (topN x (wideN six - n))), .int .u64 (aL (topN x (wideN six - n)))], .int .i64 0]) (by simp [results, Tryd.results41, go_sem, k0, k1, k2, l0, l1, l2]) rfl ⟨rfl, BW⟩
end Go.Proofs.YtifhakoeinalaaaDoor
/-
  Contracts of pre.Halves.
-/
namespace Go.Proofs.YtifhakoeinalaaaDoor
open Go.RowKit
set_option linter.unusedVariables false
set_option linter.unusedSimpArgs false

theorem topN_lt128 (six : Bool) (x n : Nat) (hx : x < 2 ^ 128) : topN x (wideN six - n) < 2 ^ 128 := topN_lt x _ 128 hx (by have := wideN_le six; omega)
theorem lowN_lt128 (x k : Nat) (hx : x < 2 ^ 128) : lowN x k < 2 ^ 128 := lowN_lt x k 128 hx
/-- pre.end, the world above alone. -/
theorem pend_b (six : Bool) (x n : Nat) (hx : x < 2 ^ 128) (hn : n ≤ wideN six) (w : World) :
    Calls Tryd.prog 54 #[.agg #[.bool six, .int .u64 (aH x), .int .u64 (aL x)], .int .i64 n] w fun e w' => e = .returned (.agg #[.bool six, .int .u64 (aH (topN x (wideN six - n))), .int .u64 (aL (topN x (wideN six - n)))]) ∧ Below w.heap.size w w' :=
  (pend_calls six x n hx hn w).mono fun e w' ⟨he, hw⟩ => ⟨he, by subst hw; go_grown⟩

set_option maxHeartbeats 400000 in
theorem halves_err (six : Bool) (x : Nat) (n e0 : Int) (hx : x < 2 ^ 128) (hc : chkE six x n = e0) (he : (e0 == 0) = false) (w : World) :
    Calls Tryd.prog 42 #[.agg #[.bool six, .int .u64 (aH x), .int .u64 (aL x), .int .i64 n]] w fun e w' => e = .returned (.tuple #[.agg #[.bool false, .int .u64 0, .int .u64 0, .int .i64 0], .agg #[.bool false, .int .u64 0, .int .u64 0, .int .i64 0], .int .i64 e0]) ∧ Below w.heap.size w w' := by
  have C := Lib.hid hc
  clear hc
  go_enter Tryd.func42, Tryd.ntmps42
  go_wp2_with fail
  refine (check_calls six x n hx _).mono ?_
  rw [C.out]
  rintro e w1 ⟨rfl, hb1⟩
  have b1 := thenBelow ((((Below.refl _ w).alloc (Nat.le_refl _) _).alloc (by simp) _).alloc (by simp; omega) _) hb1
  have P := (((PreV.new w six (aH x) (aL x) n 33).alloc _).alloc _).keep hb1
  have R := ((PreV.new (w.alloc (.cells #[.bool six, .int .u64 (aH x), .int .u64 (aL x), .int .i64 n] 33)) false 0 0 0 33).alloc _).keep hb1
  have T := (PreV.new ((w.alloc (.cells #[.bool six, .int .u64 (aH x), .int .u64 (aL x), .int .i64 n] 33)).alloc (.cells #[.bool false, .int .u64 0, .int .u64 0, .int .i64 0] 33)) false 0 0 0 33).keep hb1
  simp only [World.size_alloc] at P R T
  have HP := Lib.hid P
  have HR := Lib.hid R
  have HT := Lib.hid T
  obtain ⟨⟨p0, p1, p2, p3, pl⟩, pf⟩ := P
  obtain ⟨⟨r0, r1, r2, r3, rl⟩, rf⟩ := R
  obtain ⟨⟨t0, t1, t2, t3, tl⟩, tf⟩ := T
  have f0 := rf 0; have f1 := rf 1; have f2 := rf 2; have f3 := rf 3
  have g0 := tf 0; have g1 := tf 1; have g2 := tf 2; have g3 := tf 3
  clear hb1 rf tf pf
  go_wp2
  try simp only [Exit.inBlock, Exit.then]
  refine bodyPost_ret (v := .tuple #[.agg #[.bool false, .int .u64 0, .int .u64 0, .int .i64 0], .agg #[.bool false, .int .u64 0, .int .u64 0, .int .i64 0], .int .i64 e0]) (by simp [results, Tryd.results42, go_sem, r0, r1, r2, r3, t0, t1, t2, t3]) rfl ?_
  exact ⟨rfl, (((((((b1.setCell (by simp) _).setCell (by simp) _).setCell (by simp) _).setCell (by simp) _).setCell (by simp; omega) _).setCell (by simp; omega) _).setCell (by simp; omega) _).setCell (by simp; omega) _⟩
set_option maxHeartbeats 400000 in
theorem halves_none (six : Bool) (x : Nat) (n : Int) (hn : n = (wideN six : Nat)) (hx : x < 2 ^ 128) (hc : chkE six x n = 0) (w : World) :
    Calls Tryd.prog 42 #[.agg #[.bool six, .int .u64 (aH x), .int .u64 (aL x), .int .i64 n]] w fun e w' => e = .returned (.tuple #[.agg #[.bool false, .int .u64 0, .int .u64 0, .int .i64 0], .agg #[.bool false, .int .u64 0, .int .u64 0, .int .i64 0], .int .i64 7]) ∧ Below w.heap.size w w' := by
  subst hn
  obtain ⟨n, hn⟩ : ∃ n : Int, ((wideN six : Nat) : Int) = n := ⟨_, rfl⟩
  have HN := Lib.hid hn
  rw [hn] at hc ⊢
  clear hn
  have C := Lib.hid hc
  clear hc
  go_enter Tryd.func42, Tryd.ntmps42
  go_wp2_with fail
  refine (check_calls six x n hx _).mono ?_
  rw [C.out]
  rintro e w1 ⟨rfl, hb1⟩
  have b1 := thenBelow ((((Below.refl _ w).alloc (Nat.le_refl _) _).alloc (by simp) _).alloc (by simp; omega) _) hb1
  have P := (((PreV.new w six (aH x) (aL x) n 33).alloc _).alloc _).keep hb1
  have R := ((PreV.new (w.alloc (.cells #[.bool six, .int .u64 (aH x), .int .u64 (aL x), .int .i64 n] 33)) false 0 0 0 33).alloc _).keep hb1
  have T := (PreV.new ((w.alloc (.cells #[.bool six, .int .u64 (aH x), .int .u64 (aL x), .int .i64 n] 33)).alloc (.cells #[.bool false, .int .u64 0, .int .u64 0, .int .i64 0] 33)) false 0 0 0 33).keep hb1
  simp only [World.size_alloc] at P R T
  have HP := Lib.hid P
  have HR := Lib.hid R
  have HT := Lib.hid T
  obtain ⟨⟨p0, p1, p2, p3, pl⟩, pf⟩ := P
  obtain ⟨⟨r0, r1, r2, r3, rl⟩, rf⟩ := R
  obtain ⟨⟨t0, t1, t2, t3, tl⟩, tf⟩ := T
  have f0 := rf 0; have f1 := rf 1; have f2 := rf 2; have f3 := rf 3
  have g0 := tf 0; have g1 := tf 1; have g2 := tf 2; have g3 := tf 3
  clear hb1 rf tf pf
  go_wp2_with fail
  go_region_held3 (fun w' => w'.cell? ⟨w.heap.size, 0, none⟩ = some (.bool six) ∧ w'.cell? ⟨w.heap.size, 1, none⟩ = some (.int .u64 (aH x)) ∧ w'.cell? ⟨w.heap.size, 2, none⟩ = some (.int .u64 (aL x)) ∧ w'.cell? ⟨w.heap.size, 3, none⟩ = some (.int .i64 n)) (simp (disch := first | assumption | (simp; done) | (simp; omega)) [go_sem, World.cell?_alloc_past, World.cell?_setCell_far, p0, p1, p2, p3])
      ((go_at_call 35; refine (pwidth_calls six _ _ _).mono ?_; rintro e w' ⟨rfl, rfl⟩; rw [HN.out]))
  have hs := b1.size
  have R2 := ((HR.out.alloc (.cells #[.bool six, .int .u64 (aH x), .int .u64 (aL x)] 31)).drew)
  have T2 := ((HT.out.alloc (.cells #[.bool six, .int .u64 (aH x), .int .u64 (aL x)] 31)).drew)
  have B2 := (b1.alloc (by omega) (.cells #[.bool six, .int .u64 (aH x), .int .u64 (aL x)] 31)).drew
  rename_i K hK hH
  clear hH HR HT HP p0 p1 p2 p3 pl r0 r1 r2 r3 rl t0 t1 t2 t3 tl f0 f1 f2 f3 g0 g1 g2 g3
  revert R2 T2 B2
  generalize World.drew _ = W
  intro R2 T2 B2
  obtain ⟨⟨r0, r1, r2, r3, rl⟩, rf⟩ := R2
  obtain ⟨⟨t0, t1, t2, t3, tl⟩, tf⟩ := T2
  have f0 := rf 0; have f1 := rf 1; have f2 := rf 2; have f3 := rf 3
  have g0 := tf 0; have g1 := tf 1; have g2 := tf 2; have g3 := tf 3
  clear rf tf
  go_wp2
  try simp only [Exit.inBlock, Exit.then]
  refine bodyPost_ret (v := .tuple #[.agg #[.bool false, .int .u64 0, .int .u64 0, .int .i64 0], .agg #[.bool false, .int .u64 0, .int .u64 0, .int .i64 0], .int .i64 7]) (by simp [results, Tryd.results42, go_sem, r0, r1, r2, r3, t0, t1, t2, t3]) rfl ?_
  exact ⟨rfl, (((((((B2.setCell (by simp) _).setCell (by simp) _).setCell (by simp) _).setCell (by simp) _).setCell (by simp; omega) _).setCell (by simp; omega) _).setCell (by simp; omega) _).setCell (by simp; omega) _⟩
/-- pre.cut at one more bit. -/
theorem cut_s (six : Bool) (x n : Nat) (hx : x < 2 ^ 128) (hn : n < wideN six) (w : World) :
    Calls Tryd.prog 55 #[.agg #[.bool six, .int .u64 (aH x), .int .u64 (aL x)], .int .i64 ((n : Int) + 1)] w fun e w' => e = .returned (.agg #[.bool six, .int .u64 (aH (lowN x (wideN six - (n + 1)))), .int .u64 (aL (lowN x (wideN six - (n + 1)))), .int .i64 ((n : Int) + 1)]) ∧ Below w.heap.size w w' :=
  pcut_calls six x (n + 1) hx hn w

set_option maxHeartbeats 1000000 in
theorem halves_ok (six : Bool) (x n : Nat) (hn : n < wideN six) (hx : x < 2 ^ 128) (hc : chkE six x n = 0) (w : World) :
    Calls Tryd.prog 42 #[.agg #[.bool six, .int .u64 (aH x), .int .u64 (aL x), .int .i64 n]] w fun e w' => e = .returned (.tuple #[.agg #[.bool six, .int .u64 (aH (lowN x (wideN six - (n + 1)))), .int .u64 (aL (lowN x (wideN six - (n + 1)))), .int .i64 ((n : Int) + 1)], .agg #[.bool six, .int .u64 (aH (lowN (topN x (wideN six - n)) (wideN six - (n + 1)))), .int .u64 (aL (lowN (topN x (wideN six - n)) (wideN six - (n + 1)))), .int .i64 ((n : Int) + 1)], .int .i64 0]) ∧ Below w.heap.size w w' := by
  have hw128 := wideN_le six
  have hne : ((n : Int) == ((wideN six : Nat) : Int)) = false := by simp; omega
  have ht := topN_lt128 six x n hx
  have C := Lib.hid hc
  clear hc
  go_enter Tryd.func42, Tryd.ntmps42
  go_wp2_with fail
  refine (check_calls six x n hx _).mono ?_
  rw [C.out]
  rintro e w1 ⟨rfl, hb1⟩
  have b1 := thenBelow ((((Below.refl _ w).alloc (Nat.le_refl _) _).alloc (by simp) _).alloc (by simp; omega) _) hb1
  have P := (((PreV.new w six (aH x) (aL x) n 33).alloc _).alloc _).keep hb1
  have R := ((PreV.new (w.alloc (.cells #[.bool six, .int .u64 (aH x), .int .u64 (aL x), .int .i64 n] 33)) false 0 0 0 33).alloc _).keep hb1
  have T := (PreV.new ((w.alloc (.cells #[.bool six, .int .u64 (aH x), .int .u64 (aL x), .int .i64 n] 33)).alloc (.cells #[.bool false, .int .u64 0, .int .u64 0, .int .i64 0] 33)) false 0 0 0 33).keep hb1
  simp only [World.size_alloc] at P R T
  have HP := Lib.hid P
  have HR := Lib.hid R
  have HT := Lib.hid T
  obtain ⟨⟨p0, p1, p2, p3, pl⟩, pf⟩ := P
  obtain ⟨⟨r0, r1, r2, r3, rl⟩, rf⟩ := R
  obtain ⟨⟨t0, t1, t2, t3, tl⟩, tf⟩ := T
  have f0 := rf 0; have f1 := rf 1; have f2 := rf 2; have f3 := rf 3
  have g0 := tf 0; have g1 := tf 1; have g2 := tf 2; have g3 := tf 3
  clear hb1 rf tf pf
  go_wp2_with fail
  go_region_held3 (fun w' => w'.cell? ⟨w.heap.size, 0, none⟩ = some (.bool six) ∧ w'.cell? ⟨w.heap.size, 1, none⟩ = some (.int .u64 (aH x)) ∧ w'.cell? ⟨w.heap.size, 2, none⟩ = some (.int .u64 (aL x)) ∧ w'.cell? ⟨w.heap.size, 3, none⟩ = some (.int .i64 n)) (simp (disch := first | assumption | (simp; done) | (simp; omega)) [go_sem, World.cell?_alloc_past, World.cell?_setCell_far, p0, p1, p2, p3])
      ((go_at_call 35; refine (pwidth_calls six _ _ _).mono ?_; rintro e w' ⟨rfl, rfl⟩))
  have hs := b1.size
  go_wp2_with fail
  refine (cut_s six x n hx hn _).mono ?_
  rintro e w2 ⟨rfl, hb2⟩
  have P2 := ((HP.out.alloc _).drew).keep hb2
  have R2 := ((HR.out.alloc _).drew).keep hb2
  have T2 := ((HT.out.alloc _).drew).keep hb2
  have B2 := thenBelow (b1.alloc (by omega) _).drew hb2
  clear hb2 HR HT HP p0 p1 p2 p3 pl r0 r1 r2 r3 rl t0 t1 t2 t3 tl f0 f1 f2 f3 g0 g1 g2 g3
  have HP := Lib.hid P2
  have HR := Lib.hid R2
  have HT := Lib.hid T2
  obtain ⟨⟨p0, p1, p2, p3, pl⟩, pf⟩ := P2
  obtain ⟨⟨r0, r1, r2, r3, rl⟩, rf⟩ := R2
  have f0 := rf 0; have f1 := rf 1; have f2 := rf 2; have f3 := rf 3
  clear rf pf T2
  go_wp2_with fail
  have P3 := ((((HP.out.far (p := ⟨w.heap.size + 1, 0, none⟩) (by simp) (.bool six)).far (p := ⟨w.heap.size + 1, 1, none⟩) (by simp) (.int .u64 (aH (lowN x (wideN six - (n + 1)))))).far (p := ⟨w.heap.size + 1, 2, none⟩) (by simp) (.int .u64 (aL (lowN x (wideN six - (n + 1)))))).far (p := ⟨w.heap.size + 1, 3, none⟩) (by simp) (.int .i64 ((n : Int) + 1)))
  have R3 := HR.out.store six (aH (lowN x (wideN six - (n + 1)))) (aL (lowN x (wideN six - (n + 1)))) ((n : Int) + 1)
  have T3 := ((((HT.out.far (p := ⟨w.heap.size + 1, 0, none⟩) (by simp) (.bool six)).far (p := ⟨w.heap.size + 1, 1, none⟩) (by simp) (.int .u64 (aH (lowN x (wideN six - (n + 1)))))).far (p := ⟨w.heap.size + 1, 2, none⟩) (by simp) (.int .u64 (aL (lowN x (wideN six - (n + 1)))))).far (p := ⟨w.heap.size + 1, 3, none⟩) (by simp) (.int .i64 ((n : Int) + 1)))
  have B3 := ((((B2.setCell (p := ⟨w.heap.size + 1, 0, none⟩) (by show w.heap.size ≤ w.heap.size + 1; omega) (.bool six)).setCell (p := ⟨w.heap.size + 1, 1, none⟩) (by show w.heap.size ≤ w.heap.size + 1; omega) (.int .u64 (aH (lowN x (wideN six - (n + 1)))))).setCell (p := ⟨w.heap.size + 1, 2, none⟩) (by show w.heap.size ≤ w.heap.size + 1; omega) (.int .u64 (aL (lowN x (wideN six - (n + 1)))))).setCell (p := ⟨w.heap.size + 1, 3, none⟩) (by show w.heap.size ≤ w.heap.size + 1; omega) (.int .i64 ((n : Int) + 1)))
  clear HR HT HP p0 p1 p2 p3 pl r0 r1 r2 r3 rl f0 f1 f2 f3 B2
  revert P3 R3 T3 B3
  generalize ((((w2.setCell ⟨w.heap.size + 1, 0, none⟩ (.bool six)).setCell ⟨w.heap.size + 1, 1, none⟩ (.int .u64 (aH (lowN x (wideN six - (n + 1)))))).setCell ⟨w.heap.size + 1, 2, none⟩ (.int .u64 (aL (lowN x (wideN six - (n + 1)))))).setCell ⟨w.heap.size + 1, 3, none⟩ (.int .i64 ((n : Int) + 1))) = W
  intro P3 R3 T3 B3
  have HP := Lib.hid P3
  have HR := Lib.hid R3
  have HT := Lib.hid T3
  obtain ⟨⟨p0, p1, p2, p3, pl⟩, pf⟩ := P3
  clear R3 T3 pf
  have hwr : IntKind.i64.wrap ((n : Int) + 1) = (n : Int) + 1 := by rw [IntKind.wrap_i64]; omega
  go_region_held3 (fun w' => w'.cell? ⟨w.heap.size, 0, none⟩ = some (.bool six) ∧ w'.cell? ⟨w.heap.size, 1, none⟩ = some (.int .u64 (aH x)) ∧ w'.cell? ⟨w.heap.size, 2, none⟩ = some (.int .u64 (aL x)) ∧ w'.cell? ⟨w.heap.size, 3, none⟩ = some (.int .i64 n)) (first | (simp (disch := first | assumption | (simp; done) | (simp; omega)) [go_sem, World.cell?_alloc_past, World.cell?_setCell_far, p0, p1, p2, p3]; done) | exact ⟨P5.1.1, P5.1.2.1, P5.1.2.2.1, P5.1.2.2.2.1⟩ | exact ⟨P4.1.1, P4.1.2.1, P4.1.2.2.1, P4.1.2.2.2.1⟩ | (simp (disch := first | assumption | (simp; done) | (simp; omega)) [go_sem, World.cell?_alloc_past, World.cell?_setCell_far, P5.1.1, P5.1.2.1, P5.1.2.2.1, P5.1.2.2.2.1]; done))
    (first
      | (go_at_call 54; refine (pend_b six x n hx (by omega) _).mono ?_; rintro e w4 ⟨rfl, hb4⟩; have P4 := HP.out.drew.keep hb4; have R4 := HR.out.drew.keep hb4; have T4 := HT.out.drew.keep hb4; have b4 := thenBelow B3.drew hb4; clear hb4)
      | (go_at_call 55; refine (cut_s six (topN x (wideN six - n)) n ht hn _).mono ?_; rintro e w5 ⟨rfl, hb5⟩; have P5 := P4.keep hb5; have R5 := R4.keep hb5; have T5 := T4.keep hb5; have b5 := thenBelow b4 hb5; clear hb5; obtain ⟨⟨t0, t1, t2, t3, tl⟩, tf⟩ := T5; have g0 := tf 0; have g1 := tf 1; have g2 := tf 2; have g3 := tf 3))
  have R6 := ((((R5.far (p := ⟨w.heap.size + 1 + 1, 0, none⟩) (by simp) (.bool six)).far (p := ⟨w.heap.size + 1 + 1, 1, none⟩) (by simp) (.int .u64 (aH (lowN (topN x (wideN six - n)) (wideN six - (n + 1)))))).far (p := ⟨w.heap.size + 1 + 1, 2, none⟩) (by simp) (.int .u64 (aL (lowN (topN x (wideN six - n)) (wideN six - (n + 1)))))).far (p := ⟨w.heap.size + 1 + 1, 3, none⟩) (by simp) (.int .i64 ((n : Int) + 1)))
  have T6 := (show PreV w5 (w.heap.size + 1 + 1) false 0 0 0 from ⟨⟨t0, t1, t2, t3, tl⟩, tf⟩).store six (aH (lowN (topN x (wideN six - n)) (wideN six - (n + 1)))) (aL (lowN (topN x (wideN six - n)) (wideN six - (n + 1)))) ((n : Int) + 1)
  have B6 := ((((b5.setCell (p := ⟨w.heap.size + 1 + 1, 0, none⟩) (by show w.heap.size ≤ w.heap.size + 1 + 1; omega) (.bool six)).setCell (p := ⟨w.heap.size + 1 + 1, 1, none⟩) (by show w.heap.size ≤ w.heap.size + 1 + 1; omega) (.int .u64 (aH (lowN (topN x (wideN six - n)) (wideN six - (n + 1)))))).setCell (p := ⟨w.heap.size + 1 + 1, 2, none⟩) (by show w.heap.size ≤ w.heap.size + 1 + 1; omega) (.int .u64 (aL (lowN (topN x (wideN six - n)) (wideN six - (n + 1)))))).setCell (p := ⟨w.heap.size + 1 + 1, 3, none⟩) (by show w.heap.size ≤ w.heap.size + 1 + 1; omega) (.int .i64 ((n : Int) + 1)))
  clear HP HR HT p0 p1 p2 p3 pl P4 R4 T4 b4 P5 R5 t0 t1 t2 t3 tl tf g0 g1 g2 g3 B3
  revert R6 T6 B6
  generalize ((((w5.setCell ⟨w.heap.size + 1 + 1, 0, none⟩ (.bool six)).setCell ⟨w.heap.size + 1 + 1, 1, none⟩ (.int .u64 (aH (lowN (topN x (wideN six - n)) (wideN six - (n + 1)))))).setCell ⟨w.heap.size + 1 + 1, 2, none⟩ (.int .u64 (aL (lowN (topN x (wideN six - n)) (wideN six - (n + 1)))))).setCell ⟨w.heap.size + 1 + 1, 3, none⟩ (.int .i64 ((n : Int) + 1))) = W6
  intro R6 T6 B6
  have HR := Lib.hid R6
  have HT := Lib.hid T6
  obtain ⟨⟨r0, r1, r2, r3, rl⟩, rf⟩ := R6
  obtain ⟨⟨t0, t1, t2, t3, tl⟩, tf⟩ := T6
  have f0 := rf 0; have f1 := rf 1; have f2 := rf 2; have f3 := rf 3
  have g0 := tf 0; have g1 := tf 1; have g2 := tf 2; have g3 := tf 3
  clear rf tf
  go_wp2_with fail
  go_region
  rename_i K hK
  refine hK _ _ (wp_ret ?_)
  have R7 := (((((HR.out.store six (aH (lowN x (wideN six - (n + 1)))) (aL (lowN x (wideN six - (n + 1)))) ((n : Int) + 1)).far (p := ⟨w.heap.size + 1 + 1, 0, none⟩) (by simp) (.bool six)).far (p := ⟨w.heap.size + 1 + 1, 1, none⟩) (by simp) (.int .u64 (aH (lowN (topN x (wideN six - n)) (wideN six - (n + 1)))))).far (p := ⟨w.heap.size + 1 + 1, 2, none⟩) (by simp) (.int .u64 (aL (lowN (topN x (wideN six - n)) (wideN six - (n + 1)))))).far (p := ⟨w.heap.size + 1 + 1, 3, none⟩) (by simp) (.int .i64 ((n : Int) + 1))).drew
  have T7 := (((((HT.out.far (p := ⟨w.heap.size + 1, 0, none⟩) (by simp) (.bool six)).far (p := ⟨w.heap.size + 1, 1, none⟩) (by simp) (.int .u64 (aH (lowN x (wideN six - (n + 1)))))).far (p := ⟨w.heap.size + 1, 2, none⟩) (by simp) (.int .u64 (aL (lowN x (wideN six - (n + 1)))))).far (p := ⟨w.heap.size + 1, 3, none⟩) (by simp) (.int .i64 ((n : Int) + 1))).store six (aH (lowN (topN x (wideN six - n)) (wideN six - (n + 1)))) (aL (lowN (topN x (wideN six - n)) (wideN six - (n + 1)))) ((n : Int) + 1)).drew
  have B7 := ((((((((B6.setCell (p := ⟨w.heap.size + 1, 0, none⟩) (by show w.heap.size ≤ w.heap.size + 1; omega) (.bool six)).setCell (p := ⟨w.heap.size + 1, 1, none⟩) (by show w.heap.size ≤ w.heap.size + 1; omega) (.int .u64 (aH (lowN x (wideN six - (n + 1)))))).setCell (p := ⟨w.heap.size + 1, 2, none⟩) (by show w.heap.size ≤ w.heap.size + 1; omega) (.int .u64 (aL (lowN x (wideN six - (n + 1)))))).setCell (p := ⟨w.heap.size + 1, 3, none⟩) (by show w.heap.size ≤ w.heap.size + 1; omega) (.int .i64 ((n : Int) + 1))).setCell (p := ⟨w.heap.size + 1 + 1, 0, none⟩) (by show w.heap.size ≤ w.heap.size + 1 + 1; omega) (.bool six)).setCell (p := ⟨w.heap.size + 1 + 1, 1, none⟩) (by show w.heap.size ≤ w.heap.size + 1 + 1; omega) (.int .u64 (aH (lowN (topN x (wideN six - n)) (wideN six - (n + 1)))))).setCell (p := ⟨w.heap.size + 1 + 1, 2, none⟩) (by show w.heap.size ≤ w.heap.size + 1 + 1; omega) (.int .u64 (aL (lowN (topN x (wideN six - n)) (wideN six - (n + 1)))))).setCell (p := ⟨w.heap.size + 1 + 1, 3, none⟩) (by show w.heap.size ≤ w.heap.size + 1 + 1; omega) (.int .i64 ((n : Int) + 1))).drew
  clear HR HT r0 r1 r2 r3 rl t0 t1 t2 t3 tl f0 f1 f2 f3 g0 g1 g2 g3
  revert R7 T7 B7
  generalize World.drew _ = W7
  intro R7 T7 B7
  obtain ⟨⟨k0, k1, k2, k3, _⟩, _⟩ := R7
  obtain ⟨⟨l0, l1, l2, l3, _⟩, _⟩ := T7
  refine bodyPost_ret (v := .tuple #[.agg #[.bool six, .int .u64 (aH (lowN x (wideN six - (n + 1)))), .int .u64 (aL (lowN x (wideN six - (n + 1)))), .int .i64 ((n : Int) + 1)], .agg #[.bool six, .int .u64 (aH (lowN (topN x (wideN six - n)) (wideN six - (n + 1)))), .int .u64 (aL (lowN (topN x (wideN six - n)) (wideN six - (n + 1)))), .int .i64 ((n : Int) + 1)], .int .i64 0]) (by simp [results, Tryd.results42, go_sem, k0, k1, k2, k3, l0, l1, l2, l3]) rfl ⟨rfl, B7⟩
end Go.Proofs.YtifhakoeinalaaaDoor
/-
  Package cidr: cmp.Compare, cmp.Or and less.
-/
namespace Go.Proofs.YtifhakoeinalaaaDoor
open Go.RowKit
set_option linter.unusedVariables false
set_option linter.unusedSimpArgs false

theorem isNaN_calls (a : Int) (w : World) : Calls Tryd.prog 53 #[.int .u64 a] w fun e w' => e = .returned (.bool false) ∧ w' = w := by
  go_enter Tryd.func53, Tryd.ntmps53
  go_wp2
  go_returns
  exact ⟨by simp, rfl⟩
def cmpQ (a b : Int) : Int := if a < b then -1 else if b < a then 1 else 0
theorem cmp_calls (a b : Int) (w : World) : Calls Tryd.prog 40 #[.int .u64 a, .int .u64 b] w fun e w' => e = .returned (.int .i64 (cmpQ a b)) ∧ w' = w := by
  go_enter Tryd.func40, Tryd.ntmps40
  go_wp2_with (first
    | (go_at_call 53; refine (isNaN_calls _ _).mono ?_; rintro e w' ⟨rfl, rfl⟩))
  all_goals go_returns
  all_goals unfold cmpQ
  all_goals first
    | exact ⟨by rw [if_pos (by omega)]; rfl, rfl⟩
    | exact ⟨by rw [if_neg (by omega), if_pos (by omega)]; rfl, rfl⟩
    | exact ⟨by rw [if_neg (by omega), if_neg (by omega)]; rfl, rfl⟩
theorem or_calls (c d : Int) (g : Nat) (w : World) (h0 : w.cell? ⟨g, 0, none⟩ = some (.int .i64 c)) (h1 : w.cell? ⟨g, 1, none⟩ = some (.int .i64 d)) :
    Calls Tryd.prog 39 #[.slice (some ⟨g, 0, none⟩) 2 2] w fun e w' => e = .returned (.int .i64 (if c = 0 then d else c)) ∧ w' = w := by
  by_cases hc : c = 0
  · subst hc
    rw [if_pos rfl]
    by_cases hd : d = 0
    · subst hd
      go_enter Tryd.func39, Tryd.ntmps39
      go_wp2
      go_rounds 3
      go_returns
      exact ⟨rfl, rfl⟩
    · go_enter Tryd.func39, Tryd.ntmps39
      go_wp2
      go_rounds 3
      go_returns
      exact ⟨rfl, rfl⟩
  · rw [if_neg hc]
    go_enter Tryd.func39, Tryd.ntmps39
    go_wp2
    go_rounds 2
    go_returns
    exact ⟨rfl, rfl⟩
theorem or_is (c d r : Int) (hr : (if c = 0 then d else c) = r) (g : Nat) (w : World) (h0 : w.cell? ⟨g, 0, none⟩ = some (.int .i64 c)) (h1 : w.cell? ⟨g, 1, none⟩ = some (.int .i64 d)) :
    Calls Tryd.prog 39 #[.slice (some ⟨g, 0, none⟩) 2 2] w fun e w' => e = .returned (.int .i64 r) ∧ w' = w := by
  have := or_calls c d g w h0 h1
  rw [hr] at this
  exact this
theorem less_num (x y : Nat) : (if cmpQ (aH x) (aH y) = 0 then cmpQ (aL x) (aL y) else cmpQ (aH x) (aH y)) < 0 ↔ x < y := by
  unfold cmpQ aH aL
  repeat' split
  all_goals omega
set_option maxHeartbeats 400000 in
theorem less_calls (s t : Bool) (x y : Nat) (w : World) :
    Calls Tryd.prog 24 #[.agg #[.bool s, .int .u64 (aH x), .int .u64 (aL x)], .agg #[.bool t, .int .u64 (aH y), .int .u64 (aL y)]] w fun e w' => e = .returned (.bool (decide (x < y))) ∧ Below w.heap.size w w' := by
  have E : decide (x < y) = decide ((if cmpQ (aH x) (aH y) = 0 then cmpQ (aL x) (aL y) else cmpQ (aH x) (aH y)) < 0) := decide_eq_decide.2 (less_num x y).symm
  have C0 := Lib.hid (cmp_calls (aH x) (aH y))
  have C1 := Lib.hid (cmp_calls (aL x) (aL y))
  rw [E]
  clear E
  obtain ⟨c, hc⟩ : ∃ c, cmpQ (aH x) (aH y) = c := ⟨_, rfl⟩
  obtain ⟨d, hd⟩ : ∃ d, cmpQ (aL x) (aL y) = d := ⟨_, rfl⟩
  rw [hc] at C0 ⊢
  rw [hd] at C1 ⊢
  clear hc hd
  obtain ⟨r, hr⟩ : ∃ r, (if c = 0 then d else c) = r := ⟨_, rfl⟩
  rw [hr]
  have O := Lib.hid (or_is c d r hr)
  clear hr
  have A := (AddrAt.new w s (aH x) (aL x) 31).alloc (.cells #[.bool t, .int .u64 (aH y), .int .u64 (aL y)] 31)
  have B := AddrAt.new (w.alloc (.cells #[.bool s, .int .u64 (aH x), .int .u64 (aL x)] 31)) t (aH y) (aL y) 31
  have bw : Below w.heap.size w ((w.alloc (.cells #[.bool s, .int .u64 (aH x), .int .u64 (aL x)] 31)).alloc (.cells #[.bool t, .int .u64 (aH y), .int .u64 (aL y)] 31)) := by go_grown
  simp only [World.size_alloc] at A B
  go_enter Tryd.func24, Tryd.ntmps24
  go_wp2_with fail
  revert A B bw
  generalize ((w.alloc (.cells #[.bool s, .int .u64 (aH x), .int .u64 (aL x)] 31)).alloc (.cells #[.bool t, .int .u64 (aH y), .int .u64 (aL y)] 31)) = w1
  intro A bw B
  obtain ⟨p0, p1, p2, pl⟩ := A
  obtain ⟨q0, q1, q2, ql⟩ := B
  have k0 := fun o => World.cell?_alloc_lt w1 o ⟨w.heap.size, 1, none⟩ pl
  have k1 := fun o => World.cell?_alloc_lt w1 o ⟨w.heap.size, 2, none⟩ pl
  have k2 := fun o => World.cell?_alloc_lt w1 o ⟨w.heap.size + 1, 1, none⟩ ql
  have k3 := fun o => World.cell?_alloc_lt w1 o ⟨w.heap.size + 1, 2, none⟩ ql
  go_region_held3 (fun w' => w'.cell? ⟨w.heap.size, 1, none⟩ = some (.int .u64 (aH x)) ∧ w'.cell? ⟨w.heap.size, 2, none⟩ = some (.int .u64 (aL x)) ∧ w'.cell? ⟨w.heap.size + 1, 1, none⟩ = some (.int .u64 (aH y)) ∧ w'.cell? ⟨w.heap.size + 1, 2, none⟩ = some (.int .u64 (aL y))) (simp (disch := first | assumption | (simp; done) | (simp; omega)) [go_sem, World.cell?_alloc_past, World.cell?_setCell_far, p1, p2, q1, q2, k0, k1, k2, k3])
    (first
      | (go_at_call 40; with_reducible refine (C0.out _).mono ?_; rintro e w' ⟨rfl, rfl⟩)
      | (go_at_call 40; with_reducible refine (C1.out _).mono ?_; rintro e w' ⟨rfl, rfl⟩)
      | (go_at_call 39; refine (O.out _ _ (by simp) (by simp)).mono ?_; rintro e w' ⟨rfl, rfl⟩))
  go_wp2
  go_returns
  exact ⟨rfl, by go_grown⟩
end Go.Proofs.YtifhakoeinalaaaDoor
/-
  Contracts of pre.checkBoth.
-/
namespace Go.Proofs.YtifhakoeinalaaaDoor
open Go.RowKit
set_option linter.unusedVariables false
set_option linter.unusedSimpArgs false

/-- What checkBoth answers. -/
def bothE (s1 : Bool) (x : Nat) (n : Int) (s2 : Bool) (y : Nat) (m : Int) : Int := if chkE s1 x n = 0 then (if chkE s2 y m = 0 then (if s1 = s2 then 0 else 6) else chkE s2 y m) else chkE s1 x n

set_option maxHeartbeats 400000 in
theorem checkBoth_one (s1 s2 : Bool) (x y : Nat) (n m e0 : Int) (hx : x < 2 ^ 128) (hc : chkE s1 x n = e0) (he : (e0 == 0) = false) (w : World) :
    Calls Tryd.prog 64 #[.agg #[.bool s1, .int .u64 (aH x), .int .u64 (aL x), .int .i64 n], .agg #[.bool s2, .int .u64 (aH y), .int .u64 (aL y), .int .i64 m]] w fun e w' => e = .returned (.int .i64 e0) ∧ Below w.heap.size w w' := by
  have C := Lib.hid hc
  clear hc
  go_enter Tryd.func64, Tryd.ntmps64
  go_wp2_with fail
  refine (check_calls s1 x n hx _).mono ?_
  rw [C.out]
  rintro e w1 ⟨rfl, hb1⟩
  have b1 := thenBelow (((Below.refl _ w).alloc (Nat.le_refl _) _).alloc (by simp) _) hb1
  clear hb1
  go_wp2
  go_ret
  exact ⟨rfl, b1⟩
set_option maxHeartbeats 400000 in
theorem checkBoth_two (s1 s2 : Bool) (x y : Nat) (n m e0 : Int) (hx : x < 2 ^ 128) (hy : y < 2 ^ 128) (hc : chkE s1 x n = 0) (hd : chkE s2 y m = e0) (he : (e0 == 0) = false) (w : World) :
    Calls Tryd.prog 64 #[.agg #[.bool s1, .int .u64 (aH x), .int .u64 (aL x), .int .i64 n], .agg #[.bool s2, .int .u64 (aH y), .int .u64 (aL y), .int .i64 m]] w fun e w' => e = .returned (.int .i64 e0) ∧ Below w.heap.size w w' := by
  have C := Lib.hid hc
  have D := Lib.hid hd
  clear hc hd
  go_enter Tryd.func64, Tryd.ntmps64
  go_wp2_with fail
  refine (check_calls s1 x n hx _).mono ?_
  rw [C.out]
  rintro e w1 ⟨rfl, hb1⟩
  have b1 := thenBelow (((Below.refl _ w).alloc (Nat.le_refl _) _).alloc (by simp) _) hb1
  obtain ⟨q0, q1, q2, q3, ql⟩ := (PreAt.new (w.alloc (.cells #[.bool s1, .int .u64 (aH x), .int .u64 (aL x), .int .i64 n] 33)) s2 (aH y) (aL y) m 33).keep hb1
  simp at q0 q1 q2 q3 ql
  clear hb1
  go_wp2_with fail
  refine (check_calls s2 y m hy _).mono ?_
  rw [D.out]
  rintro e w2 ⟨rfl, hb2⟩
  have b2 := thenBelow b1 hb2
  clear hb2
  go_wp2
  go_ret
  exact ⟨rfl, b2⟩
set_option maxHeartbeats 400000 in
theorem checkBoth_fam (s1 s2 : Bool) (x y : Nat) (n m e0 : Int) (b : Bool) (hs : (!s1 == s2) = b) (hx : x < 2 ^ 128) (hy : y < 2 ^ 128) (hc : chkE s1 x n = 0) (hd : chkE s2 y m = 0) (he : (if b then 6 else 0) = e0) (w : World) :
    Calls Tryd.prog 64 #[.agg #[.bool s1, .int .u64 (aH x), .int .u64 (aL x), .int .i64 n], .agg #[.bool s2, .int .u64 (aH y), .int .u64 (aL y), .int .i64 m]] w fun e w' => e = .returned (.int .i64 e0) ∧ Below w.heap.size w w' := by
  subst he
  have C := Lib.hid hc
  have D := Lib.hid hd
  clear hc hd
  go_enter Tryd.func64, Tryd.ntmps64
  go_wp2_with fail
  refine (check_calls s1 x n hx _).mono ?_
  rw [C.out]
  rintro e w1 ⟨rfl, hb1⟩
  have b1 := thenBelow (((Below.refl _ w).alloc (Nat.le_refl _) _).alloc (by simp) _) hb1
  have P1 := ((PreAt.new w s1 (aH x) (aL x) n 33).alloc _).keep hb1
  have Q1 := (PreAt.new (w.alloc (.cells #[.bool s1, .int .u64 (aH x), .int .u64 (aL x), .int .i64 n] 33)) s2 (aH y) (aL y) m 33).keep hb1
  have Q1' := Q1
  obtain ⟨q0, q1, q2, q3, ql⟩ := Q1'
  simp at q0 q1 q2 q3 ql
  clear hb1
  go_wp2_with fail
  refine (check_calls s2 y m hy _).mono ?_
  rw [D.out]
  rintro e w2 ⟨rfl, hb2⟩
  have b2 := thenBelow b1 hb2
  clear q0 q1 q2 q3 ql
  obtain ⟨q0, q1, q2, q3, ql⟩ := Q1.keep hb2
  obtain ⟨p0, p1, p2, p3, pl⟩ := P1.keep hb2
  simp at q0 q1 q2 q3 ql
  clear hb2 P1 Q1
  cases b
  · go_wp2
    go_ret
    exact ⟨rfl, b2⟩
  · go_wp2
    go_ret
    exact ⟨rfl, b2⟩
theorem checkBoth_calls (s1 s2 : Bool) (x y : Nat) (n m : Int) (hx : x < 2 ^ 128) (hy : y < 2 ^ 128) (w : World) :
    Calls Tryd.prog 64 #[.agg #[.bool s1, .int .u64 (aH x), .int .u64 (aL x), .int .i64 n], .agg #[.bool s2, .int .u64 (aH y), .int .u64 (aL y), .int .i64 m]] w fun e w' => e = .returned (.int .i64 (bothE s1 x n s2 y m)) ∧ Below w.heap.size w w' := by
  unfold bothE
  by_cases h1 : chkE s1 x n = 0
  · rw [if_pos h1]
    by_cases h2 : chkE s2 y m = 0
    · rw [if_pos h2]
      exact checkBoth_fam s1 s2 x y n m _ (!s1 == s2) rfl hx hy h1 h2 (by cases s1 <;> cases s2 <;> rfl) w
    · rw [if_neg h2]
      exact checkBoth_two s1 s2 x y n m _ hx hy h1 rfl (by simpa using h2) w
  · rw [if_neg h1]
    exact checkBoth_one s1 s2 x y n m _ hx rfl (by simpa using h1) w
end Go.Proofs.YtifhakoeinalaaaDoor
/-
  Contracts of pre.Covers.
-/
namespace Go.Proofs.YtifhakoeinalaaaDoor
open Go.RowKit
set_option linter.unusedVariables false
set_option linter.unusedSimpArgs false

set_option maxHeartbeats 400000 in
theorem covers_err (s1 s2 : Bool) (x y : Nat) (n m e0 : Int) (hx : x < 2 ^ 128) (hy : y < 2 ^ 128) (hc : bothE s1 x n s2 y m = e0) (he : (e0 == 0) = false) (w : World) :
    Calls Tryd.prog 59 #[.agg #[.bool s1, .int .u64 (aH x), .int .u64 (aL x), .int .i64 n], .agg #[.bool s2, .int .u64 (aH y), .int .u64 (aL y), .int .i64 m]] w fun e w' => e = .returned (.tuple #[.bool false, .int .i64 e0]) ∧ Below w.heap.size w w' := by
  have C := Lib.hid hc
  clear hc
  go_enter Tryd.func59, Tryd.ntmps59
  go_wp2_with fail
  refine (checkBoth_calls s1 s2 x y n m hx hy _).mono ?_
  rw [C.out]
  rintro e w1 ⟨rfl, hb1⟩
  have b1 := thenBelow (((Below.refl _ w).alloc (Nat.le_refl _) _).alloc (by simp) _) hb1
  clear hb1
  go_wp2
  go_ret2
  exact ⟨rfl, b1⟩

set_option maxHeartbeats 1000000 in
theorem covers_long (six : Bool) (x y n m : Nat) (hx : x < 2 ^ 128) (hy : y < 2 ^ 128) (hc : bothE six x n six y m = 0) (hn : n ≤ wideN six) (hm : m < n) (w : World) :
    Calls Tryd.prog 59 #[.agg #[.bool six, .int .u64 (aH x), .int .u64 (aL x), .int .i64 n], .agg #[.bool six, .int .u64 (aH y), .int .u64 (aL y), .int .i64 m]] w fun e w' => e = .returned (.tuple #[.bool false, .int .i64 0]) ∧ Below w.heap.size w w' := by
  have C := Lib.hid hc
  have hd : decide (n ≤ m) = false := by simpa using hm
  clear hc
  go_enter Tryd.func59, Tryd.ntmps59
  go_wp2_with fail
  refine (checkBoth_calls six six x y n m hx hy _).mono ?_
  rw [C.out]
  rintro e w1 ⟨rfl, hb1⟩
  have b1 := thenBelow (((Below.refl _ w).alloc (Nat.le_refl _) _).alloc (by simp) _) hb1
  obtain ⟨q0, q1, q2, q3, ql⟩ := (PreAt.new (w.alloc (.cells #[.bool six, .int .u64 (aH x), .int .u64 (aL x), .int .i64 n] 33)) six (aH y) (aL y) m 33).keep hb1
  obtain ⟨p0, p1, p2, p3, pl⟩ := ((PreAt.new w six (aH x) (aL x) n 33).alloc _).keep hb1
  simp at q0 q1 q2 q3 ql
  clear hb1
  go_wp2_with fail
  go_quiet ((fail))
  go_wp2
  go_ret2
  exact ⟨rfl, below_drewN b1 _⟩

set_option maxHeartbeats 1000000 in
theorem covers_short (six : Bool) (x y n m z : Nat) (b : Bool) (hx : x < 2 ^ 128) (hy : y < 2 ^ 128) (hc : bothE six x n six y m = 0) (hn : n ≤ wideN six) (hm : n ≤ m) (hz : lowN y (wideN six - n) = z) (hb : decide (z = x) = b) (w : World) :
    Calls Tryd.prog 59 #[.agg #[.bool six, .int .u64 (aH x), .int .u64 (aL x), .int .i64 n], .agg #[.bool six, .int .u64 (aH y), .int .u64 (aL y), .int .i64 m]] w fun e w' => e = .returned (.tuple #[.bool b, .int .i64 0]) ∧ Below w.heap.size w w' := by
  have C := Lib.hid hc
  have Z := Lib.hid hz
  have B := Lib.hid hb
  clear hz hb
  clear hc
  go_enter Tryd.func59, Tryd.ntmps59
  go_wp2_with fail
  refine (checkBoth_calls six six x y n m hx hy _).mono ?_
  rw [C.out]
  rintro e w1 ⟨rfl, hb1⟩
  have b1 := thenBelow (((Below.refl _ w).alloc (Nat.le_refl _) _).alloc (by simp) _) hb1
  obtain ⟨q0, q1, q2, q3, ql⟩ := (PreAt.new (w.alloc (.cells #[.bool six, .int .u64 (aH x), .int .u64 (aL x), .int .i64 n] 33)) six (aH y) (aL y) m 33).keep hb1
  obtain ⟨p0, p1, p2, p3, pl⟩ := ((PreAt.new w six (aH x) (aL x) n 33).alloc _).keep hb1
  simp at q0 q1 q2 q3 ql
  clear hb1
  go_wp2_with fail
  rcases eq3 z x with h | h | ⟨h1, h⟩
  · go_region_held3 (fun w' => (w'.cell? ⟨w.heap.size + 1, 0, none⟩ = some (.bool six) ∧ w'.cell? ⟨w.heap.size + 1, 1, none⟩ = some (.int .u64 (aH y)) ∧ w'.cell? ⟨w.heap.size + 1, 2, none⟩ = some (.int .u64 (aL y)) ∧ w'.cell? ⟨w.heap.size + 1, 3, none⟩ = some (.int .i64 m)) ∧ w'.cell? ⟨w.heap.size, 0, none⟩ = some (.bool six) ∧ w'.cell? ⟨w.heap.size, 1, none⟩ = some (.int .u64 (aH x)) ∧ w'.cell? ⟨w.heap.size, 2, none⟩ = some (.int .u64 (aL x)) ∧ w'.cell? ⟨w.heap.size, 3, none⟩ = some (.int .i64 n)) (simp (disch := first | assumption | (simp; omega)) [go_sem, World.cell?_alloc_past, q0, q1, q2, q3, p0, p1, p2, p3])
      ((go_at_call 22; refine (start_calls six y n hy hn _).mono ?_; rintro e w' ⟨rfl, rfl⟩; rw [Z.out, h]))
    go_wp2
    go_ret2
    exact ⟨by rw [← B.out, h]; simp, by go_grown⟩
  · go_region_held3 (fun w' => (w'.cell? ⟨w.heap.size + 1, 0, none⟩ = some (.bool six) ∧ w'.cell? ⟨w.heap.size + 1, 1, none⟩ = some (.int .u64 (aH y)) ∧ w'.cell? ⟨w.heap.size + 1, 2, none⟩ = some (.int .u64 (aL y)) ∧ w'.cell? ⟨w.heap.size + 1, 3, none⟩ = some (.int .i64 m)) ∧ w'.cell? ⟨w.heap.size, 0, none⟩ = some (.bool six) ∧ w'.cell? ⟨w.heap.size, 1, none⟩ = some (.int .u64 (aH x)) ∧ w'.cell? ⟨w.heap.size, 2, none⟩ = some (.int .u64 (aL x)) ∧ w'.cell? ⟨w.heap.size, 3, none⟩ = some (.int .i64 n)) (simp (disch := first | assumption | (simp; omega)) [go_sem, World.cell?_alloc_past, q0, q1, q2, q3, p0, p1, p2, p3])
      ((go_at_call 22; refine (start_calls six y n hy hn _).mono ?_; rintro e w' ⟨rfl, rfl⟩; rw [Z.out]))
    go_wp2
    go_ret2
    exact ⟨by rw [← B.out, decide_eq_false (ne_of_h h)]; rfl, by go_grown⟩
  · have H1 := Lib.hid h1
    clear h1
    go_region_held3 (fun w' => (w'.cell? ⟨w.heap.size + 1, 0, none⟩ = some (.bool six) ∧ w'.cell? ⟨w.heap.size + 1, 1, none⟩ = some (.int .u64 (aH y)) ∧ w'.cell? ⟨w.heap.size + 1, 2, none⟩ = some (.int .u64 (aL y)) ∧ w'.cell? ⟨w.heap.size + 1, 3, none⟩ = some (.int .i64 m)) ∧ w'.cell? ⟨w.heap.size, 0, none⟩ = some (.bool six) ∧ w'.cell? ⟨w.heap.size, 1, none⟩ = some (.int .u64 (aH x)) ∧ w'.cell? ⟨w.heap.size, 2, none⟩ = some (.int .u64 (aL x)) ∧ w'.cell? ⟨w.heap.size, 3, none⟩ = some (.int .i64 n)) (simp (disch := first | assumption | (simp; omega)) [go_sem, World.cell?_alloc_past, q0, q1, q2, q3, p0, p1, p2, p3])
      ((go_at_call 22; refine (start_calls six y n hy hn _).mono ?_; rintro e w' ⟨rfl, rfl⟩; rw [Z.out, H1.out]))
    go_wp2
    go_ret2
    exact ⟨by rw [← B.out, decide_eq_false (ne_of_l h)]; rfl, by go_grown⟩
end Go.Proofs.YtifhakoeinalaaaDoor
/-
  pre.Covers of two valid prefixes of one family.
-/
namespace Go.Proofs.YtifhakoeinalaaaDoor
open Go.RowKit
set_option linter.unusedVariables false
set_option linter.unusedSimpArgs false
/-- Does the first cover the second? -/
def covD (six : Bool) (x n y m : Nat) : Bool := decide (n ≤ m) && decide (lowN y (wideN six - n) = x)
theorem covers_ok' (six : Bool) (x y n m : Nat) (hx : x < 2 ^ 128) (hy : y < 2 ^ 128) (hb : bothE six x n six y m = 0) (hn : n ≤ wideN six) (w : World) :
    Calls Tryd.prog 59 #[.agg #[.bool six, .int .u64 (aH x), .int .u64 (aL x), .int .i64 n], .agg #[.bool six, .int .u64 (aH y), .int .u64 (aL y), .int .i64 m]] w fun e w' => e = .returned (.tuple #[.bool (covD six x n y m), .int .i64 0]) ∧ Below w.heap.size w w' := by
  by_cases hm : n ≤ m
  · exact covers_short six x y n m _ _ hx hy hb hn hm rfl (by simp [covD, hm]) w
  · rw [show covD six x n y m = false from by simp [covD, hm]]
    exact covers_long six x y n m hx hy hb hn (by omega) w
end Go.Proofs.YtifhakoeinalaaaDoor

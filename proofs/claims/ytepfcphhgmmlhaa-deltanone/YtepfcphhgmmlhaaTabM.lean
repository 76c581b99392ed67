/-
  Plain mathematics of routing tables: the order of prefixes, lists in this order, where a prefix stands in one.
-/
import Derived.Test.YtepfcphhgmmlhaaPreC
namespace Go.Proofs.Ytepfcphhgmmlhaa
set_option linter.unusedVariables false
set_option linter.unusedSimpArgs false

/-- A prefix: family, address, Len. -/
abbrev PK := Bool × Nat × Int
/-- A route: its prefix and its hop. -/
abbrev RT := PK × Int
/-- One prefix stands ahead of another one. -/
def ltK (p q : PK) : Prop := (p.1 = false ∧ q.1 = true) ∨ (p.1 = q.1 ∧ (p.2.1 < q.2.1 ∨ (p.2.1 = q.2.1 ∧ p.2.2 < q.2.2)))
instance (p q : PK) : Decidable (ltK p q) := by unfold ltK; infer_instance
theorem ltK_irrefl (p : PK) : ¬ ltK p p := by unfold ltK; rintro (⟨a, b⟩ | ⟨_, h | ⟨_, h⟩⟩) <;> (try omega); rw [a] at b; cases b
theorem ltK_trans {p q r : PK} (h : ltK p q) (g : ltK q r) : ltK p r := by
  unfold ltK at *
  rcases h with ⟨a, b⟩ | ⟨a, h⟩ <;> rcases g with ⟨c, d⟩ | ⟨c, g⟩
  · exact .inl ⟨a, d⟩
  · exact .inl ⟨a, c ▸ b⟩
  · exact .inl ⟨a.trans c, d⟩
  · exact .inr ⟨a.trans c, by omega⟩
theorem ltK_or (p q : PK) : ltK p q ∨ p = q ∨ ltK q p := by
  obtain ⟨s, x, n⟩ := p
  obtain ⟨t, y, m⟩ := q
  unfold ltK
  cases s <;> cases t <;> simp
  all_goals omega
theorem ltK_asymm {p q : PK} (h : ltK p q) : ¬ ltK q p := fun g => ltK_irrefl p (ltK_trans h g)
theorem ltK_ne {p q : PK} (h : ltK p q) : p ≠ q := fun e => ltK_irrefl q (e ▸ h)
/-- What table.compare says. -/
def cmpK (p q : PK) : Int := if ltK p q then -1 else if p = q then 0 else 1
theorem cmpK_neg (p q : PK) : cmpK p q < 0 ↔ ltK p q := by
  unfold cmpK
  split
  · simp [*]
  · split
    · rename_i h _; exact ⟨fun h => by omega, fun g => absurd g h⟩
    · rename_i h _; exact ⟨fun h => by omega, fun g => absurd g h⟩
theorem cmpK_zero (p q : PK) : cmpK p q = 0 ↔ p = q := by
  unfold cmpK
  split
  · rename_i h; simp; exact ltK_ne h
  · split <;> simp [*]
/-- Routes in the order of their prefixes, none twice. -/
def SortedR (l : List RT) : Prop := l.Pairwise fun a b => ltK a.1 b.1
/-- How many stand ahead of a prefix. -/
def posR (l : List RT) (p : PK) : Nat := l.countP fun r => decide (ltK r.1 p)
def hasR (l : List RT) (p : PK) : Bool := l.any fun r => decide (r.1 = p)
theorem posR_le (l : List RT) (p : PK) : posR l p ≤ l.length := List.countP_le_length
theorem SortedR.lt {l : List RT} (h : SortedR l) {i j : Nat} (hij : i < j) (hj : j < l.length) : ltK (l[i]'(by omega)).1 l[j].1 :=
  List.pairwise_iff_getElem.1 h i j (by omega) hj hij
/-- A place that has all smaller ones ahead of it is the place. -/
theorem posR_of {l : List RT} {p : PK} (i : Nat) (hi : i ≤ l.length) (h1 : ∀ t (h : t < l.length), t < i → ltK l[t].1 p) (h2 : ∀ t (h : t < l.length), i ≤ t → ¬ ltK l[t].1 p) : posR l p = i := by
  have e : l = l.take i ++ l.drop i := (List.take_append_drop i l).symm
  unfold posR
  rw [e, List.countP_append]
  have a : (l.take i).countP (fun r => decide (ltK r.1 p)) = i := by
    rw [List.countP_eq_length.2, List.length_take, Nat.min_eq_left hi]
    intro r hr
    obtain ⟨t, ht, rfl⟩ := List.getElem_of_mem hr
    rw [List.length_take] at ht
    rw [List.getElem_take]
    exact decide_eq_true (h1 t (by omega) (by omega))
  have b : (l.drop i).countP (fun r => decide (ltK r.1 p)) = 0 := by
    rw [List.countP_eq_zero]
    intro r hr
    obtain ⟨t, ht, rfl⟩ := List.getElem_of_mem hr
    rw [List.length_drop] at ht
    rw [List.getElem_drop]
    simpa using h2 (i + t) (by omega) (by omega)
  rw [a, b, Nat.add_zero]
theorem SortedR.before {l : List RT} (h : SortedR l) {p : PK} {t : Nat} (ht : t < l.length) (hlt : t < posR l p) : ltK l[t].1 p := by
  refine Classical.byContradiction fun hn => ?_
  have : posR l p ≤ t := by
    unfold posR
    have e : l = l.take t ++ l.drop t := (List.take_append_drop t l).symm
    rw [e, List.countP_append]
    have a : (l.take t).countP (fun r => decide (ltK r.1 p)) ≤ t := Nat.le_trans List.countP_le_length (by rw [List.length_take]; omega)
    have b : (l.drop t).countP (fun r => decide (ltK r.1 p)) = 0 := by
      rw [List.countP_eq_zero]
      intro r hr
      obtain ⟨s, hs, rfl⟩ := List.getElem_of_mem hr
      rw [List.length_drop] at hs
      rw [List.getElem_drop]
      simp
      intro hq
      by_cases h0 : s = 0
      · subst h0; exact hn (by simpa using hq)
      · exact hn (ltK_trans (h.lt (show t < t + s by omega) (by omega)) hq)
    omega
  omega
theorem SortedR.behind {l : List RT} (h : SortedR l) {p : PK} {t : Nat} (ht : t < l.length) (hge : posR l p ≤ t) : ¬ ltK l[t].1 p := by
  intro hq
  have : t + 1 ≤ posR l p := by
    unfold posR
    have e : l = l.take (t + 1) ++ l.drop (t + 1) := (List.take_append_drop (t + 1) l).symm
    rw [e, List.countP_append]
    have a : (l.take (t + 1)).countP (fun r => decide (ltK r.1 p)) = t + 1 := by
      rw [List.countP_eq_length.2, List.length_take, Nat.min_eq_left (by omega)]
      intro r hr
      obtain ⟨s, hs, rfl⟩ := List.getElem_of_mem hr
      rw [List.length_take] at hs
      rw [List.getElem_take]
      refine decide_eq_true ?_
      by_cases h0 : s = t
      · subst h0; exact hq
      · exact ltK_trans (h.lt (show s < t by omega) ht) hq
    omega
  omega
/-- The place is the prefix's own, just if it is there. -/
theorem SortedR.found {l : List RT} (h : SortedR l) {p : PK} : hasR l p = true ↔ ∃ ht : posR l p < l.length, (l[posR l p]'ht).1 = p := by
  constructor
  · intro hh
    obtain ⟨r, hr, e⟩ := List.any_eq_true.1 hh
    obtain ⟨t, ht, rfl⟩ := List.getElem_of_mem hr
    have e := of_decide_eq_true e
    have : posR l p = t := posR_of t (by omega) (fun s hs hst => e ▸ h.lt hst ht) (fun s hs hst => by
      by_cases h0 : s = t
      · subst h0; rw [e]; exact ltK_irrefl _
      · exact fun hq => ltK_asymm hq (e ▸ h.lt (show t < s by omega) hs))
    exact ⟨by omega, by simp only [this]; exact e⟩
  · rintro ⟨ht, e⟩
    exact List.any_eq_true.2 ⟨_, List.getElem_mem ht, decide_eq_true e⟩
/-- A route put at its place. -/
def insR (l : List RT) (r : RT) : List RT := l.take (posR l r.1) ++ r :: l.drop (posR l r.1)
theorem insR_len (l : List RT) (r : RT) : (insR l r).length = l.length + 1 := by
  have := posR_le l r.1
  simp [insR]; omega
theorem insR_mem {l : List RT} {r x : RT} : x ∈ insR l r ↔ x = r ∨ x ∈ l := by
  conv => rhs; rw [← List.take_append_drop (posR l r.1) l]
  unfold insR
  simp only [List.mem_append, List.mem_cons]
  constructor
  · rintro (h | h | h) <;> simp [h]
  · rintro (h | h | h) <;> simp [h]
theorem SortedR.ins {l : List RT} (h : SortedR l) {r : RT} (hn : hasR l r.1 = false) : SortedR (insR l r) := by
  unfold insR SortedR
  have hb : ∀ a ∈ l.take (posR l r.1), ltK a.1 r.1 := fun a ha => by
    obtain ⟨t, ht, rfl⟩ := List.getElem_of_mem ha
    rw [List.length_take] at ht
    rw [List.getElem_take]
    exact h.before (by omega) (by omega)
  have hd : ∀ a ∈ l.drop (posR l r.1), ltK r.1 a.1 := fun a ha => by
    obtain ⟨t, ht, rfl⟩ := List.getElem_of_mem ha
    rw [List.length_drop] at ht
    rw [List.getElem_drop]
    have h1 := h.behind (p := r.1) (t := posR l r.1 + t) (by omega) (by omega)
    rcases ltK_or (l[posR l r.1 + t]).1 r.1 with g | g | g
    · exact absurd g h1
    · exfalso
      have : hasR l r.1 = true := List.any_eq_true.2 ⟨_, List.getElem_mem (by omega : posR l r.1 + t < l.length), decide_eq_true g⟩
      rw [hn] at this; cases this
    · exact g
  rw [List.pairwise_append]
  refine ⟨h.sublist (List.take_sublist _ _), List.pairwise_cons.2 ⟨hd, h.sublist (List.drop_sublist _ _)⟩, fun a ha b hb' => ?_⟩
  rcases List.mem_cons.1 hb' with rfl | hb'
  · exact hb a ha
  · exact ltK_trans (hb a ha) (hd b hb')
theorem hasR_ins (l : List RT) (r : RT) (p : PK) : hasR (insR l r) p = (decide (r.1 = p) || hasR l p) := by
  rw [Bool.eq_iff_iff]
  simp only [hasR, List.any_eq_true, Bool.or_eq_true, insR_mem, decide_eq_true_eq]
  constructor
  · rintro ⟨x, rfl | h, e⟩
    · exact .inl e
    · exact .inr ⟨x, h, e⟩
  · rintro (e | ⟨x, h, e⟩)
    · exact ⟨r, .inl rfl, e⟩
    · exact ⟨x, .inr h, e⟩
/-- The words of two addresses stand as the addresses do. -/
theorem words_lt (x y : Nat) : x < y ↔ aH x < aH y ∨ aH x = aH y ∧ aL x < aL y := by unfold aH aL; omega
theorem words_eq (x y : Nat) : x = y ↔ aH x = aH y ∧ aL x = aL y := by unfold aH aL; omega
end Go.Proofs.Ytepfcphhgmmlhaa

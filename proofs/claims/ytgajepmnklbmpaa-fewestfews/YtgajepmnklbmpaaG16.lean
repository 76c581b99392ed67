/-
  Laid together: FSameM, FSameN, FwM.
-/
import Derived.Test.YtgajepmnklbmpaaG9
import Derived.Test.YtgajepmnklbmpaaG15
/-
  Plain mathematics: two tables that route alike: by the addresses where a prefix begins or has just ended, and prefix by prefix.
-/
namespace Go.Proofs.Ytgajepmnklbmpaa
open Go.RowKit
set_option linter.unusedVariables false
set_option linter.unusedSimpArgs false
theorem foldl_mem_congr {α β : Type} {f g : β → α → β} : ∀ (l : List α) (b : β), (∀ b, ∀ a ∈ l, f b a = g b a) → l.foldl f b = l.foldl g b
  | [], _, _ => rfl
  | a :: t, b, h => by
    rw [List.foldl_cons, List.foldl_cons, h b a List.mem_cons_self]
    exact foldl_mem_congr t _ fun b a ha => h b a (List.mem_cons_of_mem _ ha)
/-- The size of a route's block. -/
def kR (r : RT) : Nat := wideN r.1.1 - r.1.2.2.toNat
theorem al_of {r : RT} (h : chkE r.1.1 r.1.2.1 r.1.2.2 = 0) : AL r.1.1 r.1.2.1 (kR r) ∧ r.1.2.2 = ((wideN r.1.1 - kR r : Nat) : Int) := by
  obtain ⟨k, a, b, c⟩ := al_chk h
  unfold kR
  rw [← c]
  exact ⟨a, b⟩
theorem mB_blk {r : RT} (h : chkE r.1.1 r.1.2.1 r.1.2.2 = 0) (s : Bool) (y : Nat) : mB s y r = true ↔ r.1.1 = s ∧ inB r.1.2.1 (kR r) y := by
  obtain ⟨a, e⟩ := al_of h
  rw [mB_iff]
  constructor
  · rintro ⟨rfl, h2⟩; exact ⟨rfl, (low_blk a.lowN).1 h2⟩
  · rintro ⟨rfl, h2⟩; exact ⟨rfl, (low_blk a.lowN).2 h2⟩
theorem bestM_congr {s : Bool} {y y' : Nat} {l : List RT} (h : ∀ r ∈ l, mB s y r = mB s y' r) : bestM s y l = bestM s y' l := by
  unfold bestM
  exact foldl_mem_congr l _ fun b r hr => by rw [h r hr]
theorem bestA_congr {s : Bool} {y y' : Nat} {l : List RT} (h : ∀ r ∈ l, mB s y r = mB s y' r) : bestA s y l = bestA s y' l := by unfold bestA; rw [bestM_congr h]
theorem bestA_none {s : Bool} {y : Nat} {l : List RT} (hv : ValR l) (h : ∀ r ∈ l, mB s y r = false) : (bestA s y l).1 = 0 := by
  rcases bestA_best (s := s) (y := y) hv with ⟨_, e, _⟩ | ⟨r, hr, hm, _⟩
  · exact e
  · rw [h r hr] at hm; cases hm
/-- The addresses that may be routed otherwise than those before them. -/
def chgR (r : RT) : List (Bool × Nat) := (r.1.1, r.1.2.1) :: if r.1.2.1 + 2 ^ kR r < 2 ^ wideN r.1.1 then [(r.1.1, r.1.2.1 + 2 ^ kR r)] else []
def chgL (l : List RT) : List (Bool × Nat) := l.flatMap chgR
theorem chg_valid {l : List RT} (hv : ValR l) : ∀ c ∈ chgL l, c.2 < 2 ^ wideN c.1 := fun c hc => by
  obtain ⟨r, hr, h⟩ := List.mem_flatMap.1 hc
  unfold chgR at h
  rcases List.mem_cons.1 h with e | h
  · rw [e]; exact (al_of (hv r hr)).1.lt
  · split at h
    · rename_i hlt
      simp only [List.mem_singleton] at h
      rw [h]; exact hlt
    · cases h
theorem chg_no {l : List RT} {s : Bool} {y : Nat} (hy : y < 2 ^ wideN s) (h : (s, y) ∉ chgL l) : ∀ r ∈ l, r.1.1 = s → r.1.2.1 ≠ y ∧ r.1.2.1 + 2 ^ kR r ≠ y := fun r hr e => by
  constructor
  · intro e2; exact h (List.mem_flatMap.2 ⟨r, hr, by unfold chgR; rw [e, e2]; exact List.mem_cons_self⟩)
  · intro e2; exact h (List.mem_flatMap.2 ⟨r, hr, by unfold chgR; rw [e, e2, if_pos hy]; simp⟩)
theorem same_steps {l m : List RT} (hl : ValR l) (hm : ValR m) (h : ∀ c ∈ chgL (l ++ m), (bestA c.1 c.2 l).1 = (bestA c.1 c.2 m).1) (s : Bool) : ∀ y, y < 2 ^ wideN s → (bestA s y l).1 = (bestA s y m).1 := by
  have hv : ValR (l ++ m) := fun r hr => (List.mem_append.1 hr).elim (hl r) (hm r)
  intro y
  induction y with
  | zero =>
    intro hy
    by_cases hc : (s, 0) ∈ chgL (l ++ m)
    · exact h _ hc
    · have hn := chg_no hy hc
      have no : ∀ r ∈ l ++ m, mB s 0 r = false := fun r hr => by
        rw [← Bool.not_eq_true, mB_blk (hv r hr)]
        rintro ⟨e, i1, _⟩
        exact (hn r hr e).1 (by omega)
      rw [bestA_none hl fun r hr => no r (List.mem_append.2 (.inl hr)), bestA_none hm fun r hr => no r (List.mem_append.2 (.inr hr))]
  | succ y ih =>
    intro hy
    by_cases hc : (s, y + 1) ∈ chgL (l ++ m)
    · exact h _ hc
    · have hn := chg_no hy hc
      have eq : ∀ r ∈ l ++ m, mB s (y + 1) r = mB s y r := fun r hr => by
        rw [Bool.eq_iff_iff, mB_blk (hv r hr), mB_blk (hv r hr)]
        unfold inB
        constructor
        · rintro ⟨e, i1, i2⟩; have := hn r hr e; exact ⟨e, by omega, by omega⟩
        · rintro ⟨e, i1, i2⟩; have := hn r hr e; exact ⟨e, by omega, by omega⟩
      rw [bestA_congr fun r hr => eq r (List.mem_append.2 (.inl hr)), bestA_congr fun r hr => eq r (List.mem_append.2 (.inr hr))]
      exact ih (by omega)
/-- Both tables route every address alike. -/
def SameW (l m : List RT) : Prop := ∀ s y, y < 2 ^ wideN s → (bestA s y l).1 = (bestA s y m).1
theorem same_chg {l m : List RT} (hl : ValR l) (hm : ValR m) : (∀ c ∈ chgL (l ++ m), (bestA c.1 c.2 l).1 = (bestA c.1 c.2 m).1) ↔ SameW l m :=
  ⟨fun h s y hy => same_steps hl hm h s y hy, fun h c hc => h c.1 c.2 (chg_valid (fun r hr => (List.mem_append.1 hr).elim (hl r) (hm r)) c hc)⟩
/-! The document's way: prefix by prefix. -/
/-- A route's prefix lies within a block. -/
def ovR (s : Bool) (x k : Nat) (r : RT) : Bool := decide (r.1.1 = s) && cov x k r.1.2.1 (kR r)
/-- The prefix of a block. -/
def pkB (s : Bool) (x k : Nat) : PK := (s, x, ((wideN s - k : Nat) : Int))
/-- The hop at just this prefix, else a. -/
def atH (p : PK) (l : List RT) (a : Int) : Int := l.foldl (fun h r => if r.1 = p then r.2 else h) a
def deepR (s : Bool) (x k : Nat) (l : List RT) : Bool := l.any fun r => !decide (r.1 = pkB s x k) && ovR s x k r
/-- What the document's sameWay answers. -/
def swE (s : Bool) (l m : List RT) : Nat → Nat → Int → Int → Bool
  | 0, x, a, b => decide (atH (pkB s x 0) l a = atH (pkB s x 0) m b)
  | k + 1, x, a, b => if deepR s x (k + 1) l || deepR s x (k + 1) m then swE s l m k x (atH (pkB s x (k + 1)) l a) (atH (pkB s x (k + 1)) m b) && swE s l m k (x + 2 ^ k) (atH (pkB s x (k + 1)) l a) (atH (pkB s x (k + 1)) m b)
    else decide (atH (pkB s x (k + 1)) l a = atH (pkB s x (k + 1)) m b)
/-- Where an address goes by the routes within a block, else to a. -/
def goB (s : Bool) (x k : Nat) (l : List RT) (a : Int) (y : Nat) : Int := if (l.filter (ovR s x k)).any (mB s y) then (bestA s y (l.filter (ovR s x k))).1 else a
theorem atH_or {p : PK} {l : List RT} (hd : DistR l) (a : Int) : (atH p l a = a ∧ ∀ r ∈ l, r.1 ≠ p) ∨ ∃ r ∈ l, r.1 = p ∧ atH p l a = r.2 := by
  by_cases c : ∃ r ∈ l, r.1 = p
  · obtain ⟨r, hr, e⟩ := c
    refine .inr ⟨r, hr, e, ?_⟩
    have H : ∀ (t : List RT) (b : Int), (∀ q ∈ t, q ∈ l) → (b = r.2 ∨ r ∈ t) → t.foldl (fun h q => if q.1 = p then q.2 else h) b = r.2 := by
      intro t
      induction t with
      | nil => intro b _ h; exact h.elim id fun h => (by cases h)
      | cons q t ih =>
        intro b hs h
        rw [List.foldl_cons]
        refine ih _ (fun x hx => hs x (List.mem_cons_of_mem _ hx)) ?_
        by_cases eq : q.1 = p
        · rw [if_pos eq]
          have : q = r := hd q (hs q List.mem_cons_self) r hr (eq.trans e.symm)
          exact .inl (by rw [this])
        · rw [if_neg eq]
          rcases h with h | h
          · exact .inl h
          · rcases List.mem_cons.1 h with h | h
            · exact absurd (by rw [← h]; exact e) eq
            · exact .inr h
    exact H l a (fun q hq => hq) (.inr hr)
  · refine .inl ⟨?_, fun r hr e => c ⟨r, hr, e⟩⟩
    have H : ∀ (t : List RT) (b : Int), (∀ q ∈ t, q ∈ l) → t.foldl (fun h q => if q.1 = p then q.2 else h) b = b := by
      intro t
      induction t with
      | nil => intro b _; rfl
      | cons q t ih =>
        intro b hs
        rw [List.foldl_cons, if_neg (fun e => c ⟨q, hs q List.mem_cons_self, e⟩)]
        exact ih b fun x hx => hs x (List.mem_cons_of_mem _ hx)
    exact H l a fun q hq => hq
theorem key_blk {s : Bool} {x k : Nat} (hk : k ≤ wideN s) {r : RT} (h : chkE r.1.1 r.1.2.1 r.1.2.2 = 0) : r.1 = pkB s x k ↔ r.1.1 = s ∧ r.1.2.1 = x ∧ kR r = k := by
  obtain ⟨a, e⟩ := al_of h
  obtain ⟨⟨t, z, n⟩, hp⟩ := r
  simp only [pkB, kR] at *
  constructor
  · intro e2
    simp only [Prod.mk.injEq] at e2
    obtain ⟨rfl, rfl, rfl⟩ := e2
    refine ⟨rfl, rfl, ?_⟩
    simp only [Int.toNat_natCast]; omega
  · rintro ⟨rfl, rfl, e2⟩
    rw [e2] at e
    rw [e]
end Go.Proofs.Ytgajepmnklbmpaa
/-
  Plain mathematics: the document's way of telling whether two tables route alike.
-/
namespace Go.Proofs.Ytgajepmnklbmpaa
open Go.RowKit
set_option linter.unusedVariables false
set_option linter.unusedSimpArgs false
theorem dist_filter {l : List RT} (hd : DistR l) (P : RT → Bool) : DistR (l.filter P) := fun a ha b hb e => hd a (List.mem_filter.1 ha).1 b (List.mem_filter.1 hb).1 e
theorem val_filter {l : List RT} (hv : ValR l) (P : RT → Bool) : ValR (l.filter P) := fun a ha => hv a (List.mem_filter.1 ha).1
theorem ovR_iff {s : Bool} {x k : Nat} {r : RT} : ovR s x k r = true ↔ r.1.1 = s ∧ x ≤ r.1.2.1 ∧ r.1.2.1 + 2 ^ kR r ≤ x + 2 ^ k := by
  rw [ovR, Bool.and_eq_true, decide_eq_true_iff, cov_iff]
theorem any_mB {s : Bool} {y : Nat} {l : List RT} : l.any (mB s y) = true ↔ ∃ r ∈ l, mB s y r = true := List.any_eq_true
/-- The best of a list: what it is, if something matches. -/
theorem best_of {s : Bool} {y : Nat} {l : List RT} (hv : ValR l) (hd : DistR l) {r : RT} (hr : r ∈ l) (hm : mB s y r = true) (hb : ∀ q ∈ l, mB s y q = true → q.1.2.2 ≤ r.1.2.2) : (bestA s y l).1 = r.2 :=
  ((bestA_best (s := s) (y := y) hv).unique hd (.inr ⟨r, hr, hm, rfl, rfl, hb⟩)).1
theorem best_some {s : Bool} {y : Nat} {l : List RT} (hv : ValR l) (h : l.any (mB s y) = true) : ∃ r ∈ l, mB s y r = true ∧ (bestA s y l).1 = r.2 ∧ ∀ q ∈ l, mB s y q = true → q.1.2.2 ≤ r.1.2.2 := by
  obtain ⟨q, hq, hqm⟩ := any_mB.1 h
  rcases bestA_best (s := s) (y := y) hv with ⟨a, _, _⟩ | ⟨r, hr, hm, e, e2, hb⟩
  · rw [a q hq] at hqm; cases hqm
  · exact ⟨r, hr, hm, e.symm, fun p hp hpm => by rw [e2]; exact hb p hp hpm⟩
theorem go_shallow {s : Bool} {x k : Nat} {l : List RT} (hv : ValR l) (hd : DistR l) (hk : k ≤ wideN s) (hn : deepR s x k l = false) (a : Int) {y : Nat} (hy : inB x k y) : goB s x k l a y = atH (pkB s x k) l a := by
  have only : ∀ r ∈ l, ovR s x k r = true → r.1 = pkB s x k := fun r hr ho => by
    rw [deepR, List.any_eq_false] at hn
    have := hn r hr
    rw [ho, Bool.and_true] at this
    simpa using this
  rcases atH_or (p := pkB s x k) hd a with ⟨e, hno⟩ | ⟨r, hr, ek, e⟩
  · rw [e, goB, if_neg]
    intro c
    obtain ⟨q, hq, _⟩ := any_mB.1 c
    exact hno q (List.mem_filter.1 hq).1 (only q (List.mem_filter.1 hq).1 (List.mem_filter.1 hq).2)
  · obtain ⟨e1, e2, e3⟩ := (key_blk hk (hv r hr)).1 ek
    have hm : mB s y r = true := (mB_blk (hv r hr) s y).2 ⟨e1, by rw [e2, e3]; exact hy⟩
    have hrf : r ∈ l.filter (ovR s x k) := List.mem_filter.2 ⟨hr, ovR_iff.2 ⟨e1, by omega, by rw [e2, e3]; exact Nat.le_refl _⟩⟩
    rw [e, goB, if_pos (any_mB.2 ⟨r, hrf, hm⟩)]
    refine best_of (val_filter hv _) (dist_filter hd _) hrf hm fun q hq _ => ?_
    rw [only q (List.mem_filter.1 hq).1 (List.mem_filter.1 hq).2, ek]; exact Int.le_refl _
theorem go_half {s : Bool} {x k x' : Nat} {l : List RT} (hv : ValR l) (hd : DistR l) (hA : AL s x (k + 1)) (hA' : AL s x' k) (hx : x' = x ∨ x' = x + 2 ^ k) (a : Int) {y : Nat} (hy : inB x' k y) :
    goB s x (k + 1) l a y = goB s x' k l (atH (pkB s x (k + 1)) l a) y := by
  have p2 : 2 ^ (k + 1) = 2 ^ k + 2 ^ k := pow_up k
  have p1 := pow_one k
  have hk1 : k + 1 ≤ wideN s := hA.1
  have yup : inB x (k + 1) y := by unfold inB at hy ⊢; rcases hx with e | e <;> omega
  have sub : ∀ r, ovR s x' k r = true → ovR s x (k + 1) r = true := fun r h => by
    obtain ⟨a1, a2, a3⟩ := ovR_iff.1 h
    exact ovR_iff.2 ⟨a1, by rcases hx with e | e <;> omega, by rcases hx with e | e <;> omega⟩
  have split : ∀ r ∈ l, ovR s x (k + 1) r = true → mB s y r = true → ovR s x' k r = true ∨ r.1 = pkB s x (k + 1) := fun r hr ho hm => by
    obtain ⟨a1, a2, a3⟩ := ovR_iff.1 ho
    obtain ⟨_, hb⟩ := (mB_blk (hv r hr) s y).1 hm
    have har := (al_of (hv r hr)).1
    rw [a1] at har
    rcases al_three hA' har hy hb with c | c
    · rw [cov_iff] at c; exact .inl (ovR_iff.2 ⟨a1, c.1, c.2⟩)
    · rw [cov_iff] at c
      have k1 : kR r ≤ k + 1 := by
        rcases Nat.lt_or_ge (k + 1) (kR r) with h | h
        · have := Nat.pow_lt_pow_right (show 1 < 2 by decide) h; omega
        · exact h
      have k2 : k ≤ kR r := by
        rcases Nat.lt_or_ge (kR r) k with h | h
        · have := Nat.pow_lt_pow_right (show 1 < 2 by decide) h; omega
        · exact h
      rcases Nat.eq_or_lt_of_le k2 with h | h
      · rw [← h] at c a3
        exact .inl (ovR_iff.2 ⟨a1, by omega, by rw [← h]; omega⟩)
      · have h2 : kR r = k + 1 := by omega
        rw [h2] at a3
        exact .inr ((key_blk hk1 (hv r hr)).2 ⟨a1, by omega, h2⟩)
  by_cases h' : (l.filter (ovR s x' k)).any (mB s y) = true
  · obtain ⟨r, hr, hm, e, hb⟩ := best_some (val_filter hv _) h'
    have hrl := (List.mem_filter.1 hr).1
    have hro := (List.mem_filter.1 hr).2
    have hrf : r ∈ l.filter (ovR s x (k + 1)) := List.mem_filter.2 ⟨hrl, sub r hro⟩
    rw [goB, if_pos (any_mB.2 ⟨r, hrf, hm⟩), goB, if_pos h', e]
    refine best_of (val_filter hv _) (dist_filter hd _) hrf hm fun q hq hqm => ?_
    rcases split q (List.mem_filter.1 hq).1 (List.mem_filter.1 hq).2 hqm with c | c
    · exact hb q (List.mem_filter.2 ⟨(List.mem_filter.1 hq).1, c⟩) hqm
    · obtain ⟨a1, a2, a3⟩ := ovR_iff.1 hro
      have hkr : kR r ≤ k := by
        rcases Nat.lt_or_ge k (kR r) with h | h
        · have := Nat.pow_lt_pow_right (show 1 < 2 by decide) h; omega
        · exact h
      have e2 := (al_of (hv r hrl)).2
      rw [a1] at e2
      rw [c, e2]
      show ((wideN s - (k + 1) : Nat) : Int) ≤ _
      omega
  · rw [show goB s x' k l (atH (pkB s x (k + 1)) l a) y = atH (pkB s x (k + 1)) l a by rw [goB, if_neg h']]
    have key : ∀ q ∈ l.filter (ovR s x (k + 1)), mB s y q = true → q.1 = pkB s x (k + 1) := fun q hq hqm => by
      rcases split q (List.mem_filter.1 hq).1 (List.mem_filter.1 hq).2 hqm with c | c
      · exact absurd (any_mB.2 ⟨q, List.mem_filter.2 ⟨(List.mem_filter.1 hq).1, c⟩, hqm⟩) h'
      · exact c
    rcases atH_or (p := pkB s x (k + 1)) hd a with ⟨e, hno⟩ | ⟨r, hr, ek, e⟩
    · rw [e, goB, if_neg]
      intro c
      obtain ⟨q, hq, hqm⟩ := any_mB.1 c
      exact hno q (List.mem_filter.1 hq).1 (key q hq hqm)
    · obtain ⟨e1, e2, e3⟩ := (key_blk hk1 (hv r hr)).1 ek
      have hm : mB s y r = true := (mB_blk (hv r hr) s y).2 ⟨e1, by rw [e2, e3]; exact yup⟩
      have hrf : r ∈ l.filter (ovR s x (k + 1)) := List.mem_filter.2 ⟨hr, ovR_iff.2 ⟨e1, by omega, by rw [e2, e3]; exact Nat.le_refl _⟩⟩
      rw [e, goB, if_pos (any_mB.2 ⟨r, hrf, hm⟩)]
      refine best_of (val_filter hv _) (dist_filter hd _) hrf hm fun q hq hqm => ?_
      rw [key q hq hqm, ek]; exact Int.le_refl _
theorem deep_zero {s : Bool} {x : Nat} {l : List RT} (hv : ValR l) : deepR s x 0 l = false := by
  rw [deepR, List.any_eq_false]
  intro r hr c
  rw [Bool.and_eq_true] at c
  obtain ⟨a1, a2, a3⟩ := ovR_iff.1 c.2
  have p1 := pow_one (kR r)
  have hk : kR r = 0 := by
    rcases Nat.eq_zero_or_pos (kR r) with h | h
    · exact h
    · have := Nat.pow_le_pow_right (show 0 < 2 by decide) h; simp at a3; omega
  rw [hk] at a3
  have hx0 : r.1.2.1 = x := by simp at a3; omega
  have := (key_blk (x := x) (Nat.zero_le _) (hv r hr)).2 ⟨a1, hx0, hk⟩
  rw [this] at c
  simp at c
theorem sw_iff {s : Bool} {l m : List RT} (hl : ValR l) (hm : ValR m) (dl : DistR l) (dm : DistR m) : ∀ (k x : Nat) (a b : Int), AL s x k → (swE s l m k x a b = true ↔ ∀ y, inB x k y → goB s x k l a y = goB s x k m b y)
  | 0, x, a, b, hA => by
    rw [swE, decide_eq_true_iff]
    constructor
    · intro h y hy
      rw [go_shallow hl dl (Nat.zero_le _) (deep_zero hl) a hy, go_shallow hm dm (Nat.zero_le _) (deep_zero hm) b hy]; exact h
    · intro h
      have := h x (inB_self x 0)
      rwa [go_shallow hl dl (Nat.zero_le _) (deep_zero hl) a (inB_self x 0), go_shallow hm dm (Nat.zero_le _) (deep_zero hm) b (inB_self x 0)] at this
  | k + 1, x, a, b, hA => by
    rw [swE]
    by_cases hdp : (deepR s x (k + 1) l || deepR s x (k + 1) m) = true
    · rw [if_pos hdp, Bool.and_eq_true, sw_iff hl hm dl dm k x _ _ hA.low, sw_iff hl hm dl dm k (x + 2 ^ k) _ _ hA.high]
      constructor
      · rintro ⟨h1, h2⟩ y hy
        rcases inB_up.1 hy with c | c
        · rw [go_half hl dl hA hA.low (.inl rfl) a c, go_half hm dm hA hA.low (.inl rfl) b c]; exact h1 y c
        · rw [go_half hl dl hA hA.high (.inr rfl) a c, go_half hm dm hA hA.high (.inr rfl) b c]; exact h2 y c
      · intro h
        exact ⟨fun y c => by rw [← go_half hl dl hA hA.low (.inl rfl) a c, ← go_half hm dm hA hA.low (.inl rfl) b c]; exact h y (inB_low c),
          fun y c => by rw [← go_half hl dl hA hA.high (.inr rfl) a c, ← go_half hm dm hA hA.high (.inr rfl) b c]; exact h y (inB_high c)⟩
    · rw [if_neg hdp, decide_eq_true_iff]
      rw [Bool.or_eq_true, not_or, Bool.not_eq_true, Bool.not_eq_true] at hdp
      constructor
      · intro h y hy
        rw [go_shallow hl dl hA.1 hdp.1 a hy, go_shallow hm dm hA.1 hdp.2 b hy]; exact h
      · intro h
        have := h x (inB_self x _)
        rwa [go_shallow hl dl hA.1 hdp.1 a (inB_self x _), go_shallow hm dm hA.1 hdp.2 b (inB_self x _)] at this
theorem go_top {s : Bool} {l : List RT} (hv : ValR l) (hd : DistR l) {y : Nat} : goB s 0 (wideN s) l 0 y = (bestA s y l).1 := by
  have all : ∀ r ∈ l, mB s y r = true → r ∈ l.filter (ovR s 0 (wideN s)) := fun r hr hm => by
    obtain ⟨e, _⟩ := (mB_blk (hv r hr) s y).1 hm
    have := (al_of (hv r hr)).1.2.1
    rw [e] at this
    exact List.mem_filter.2 ⟨hr, ovR_iff.2 ⟨e, Nat.zero_le _, by omega⟩⟩
  by_cases h : (l.filter (ovR s 0 (wideN s))).any (mB s y) = true
  · obtain ⟨r, hr, hm, e, hb⟩ := best_some (val_filter hv _) h
    rw [goB, if_pos h, e]
    exact (best_of hv hd (List.mem_filter.1 hr).1 hm fun q hq hqm => hb q (all q hq hqm) hqm).symm
  · rw [goB, if_neg h]
    refine (bestA_none hv fun r hr => ?_).symm
    cases hm : mB s y r with
    | false => rfl
    | true => exact absurd (any_mB.2 ⟨r, all r hr hm, hm⟩) h
/-- The document's answer: both families. -/
theorem sw_same {l m : List RT} (hl : ValR l) (hm : ValR m) (dl : DistR l) (dm : DistR m) : (swE false l m (wideN false) 0 0 0 && swE true l m (wideN true) 0 0 0) = true ↔ SameW l m := by
  rw [Bool.and_eq_true, sw_iff hl hm dl dm _ _ _ _ (AL.top false), sw_iff hl hm dl dm _ _ _ _ (AL.top true)]
  constructor
  · rintro ⟨h1, h2⟩ s y hy
    cases s
    · have := h1 y ⟨Nat.zero_le _, by rw [Nat.zero_add]; exact hy⟩
      rwa [go_top hl dl, go_top hm dm] at this
    · have := h2 y ⟨Nat.zero_le _, by rw [Nat.zero_add]; exact hy⟩
      rwa [go_top hl dl, go_top hm dm] at this
  · intro h
    exact ⟨fun y hy => by rw [go_top hl dl, go_top hm dm]; exact h false y (by have := hy.2; omega), fun y hy => by rw [go_top hl dl, go_top hm dm]; exact h true y (by have := hy.2; omega)⟩
end Go.Proofs.Ytgajepmnklbmpaa
/-
  Plain mathematics: the parts of a table, and the routes that they need.
-/
namespace Go.Proofs.Ytgajepmnklbmpaa
open Go.RowKit
set_option linter.unusedVariables false
set_option linter.unusedSimpArgs false
theorem nodup_lenF {α : Type} [DecidableEq α] : ∀ (A L : List α), A.Nodup → (∀ x ∈ A, x ∈ L) → A.length ≤ L.length
  | [], L, _, _ => by simp
  | a :: A, L, hn, hs => by
    rw [List.nodup_cons] at hn
    have ha := hs a (by simp)
    have ih := nodup_lenF A (L.erase a) hn.2 fun x hx => (List.mem_erase_of_ne (fun e => hn.1 (by rw [← e]; exact hx))).2 (hs x (by simp [hx]))
    rw [List.length_erase_of_mem ha] at ih
    have : 0 < L.length := List.length_pos_of_mem ha
    rw [List.length_cons]; omega
/-- A part: its prefix, its best hops, its halves. -/
inductive FT where
  | leaf (p : PK) (hs : List Int)
  | node (p : PK) (hs : List Int) (a b : FT)
def FT.hs : FT → List Int
  | .leaf _ hs => hs
  | .node _ hs _ _ => hs
def bestL (a b : List Int) : List Int := if (a.filter fun h => decide (h ∈ b)) = [] then a ++ b else a.filter fun h => decide (h ∈ b)
def dvT (s : Bool) (l : List RT) : Nat → Nat → Int → FT
  | 0, x, a => .leaf (pkB s x 0) [atH (pkB s x 0) l a]
  | k + 1, x, a =>
    if deepR s x (k + 1) l = true then
      .node (pkB s x (k + 1)) (bestL (dvT s l k x (atH (pkB s x (k + 1)) l a)).hs (dvT s l k (x + 2 ^ k) (atH (pkB s x (k + 1)) l a)).hs) (dvT s l k x (atH (pkB s x (k + 1)) l a)) (dvT s l k (x + 2 ^ k) (atH (pkB s x (k + 1)) l a))
    else .leaf (pkB s x (k + 1)) [atH (pkB s x (k + 1)) l a]
/-- The routes that a part needs under a hop. -/
def ecT : FT → Int → List RT
  | .leaf p hs, h => if h ∈ hs then [] else [(p, hs.headD 0)]
  | .node p hs a b, h => (if h ∈ hs then [] else [(p, hs.headD 0)]) ++ (ecT a (if h ∈ hs then h else hs.headD 0) ++ ecT b (if h ∈ hs then h else hs.headD 0))
theorem bestL_ne {a b : List Int} (h : a ≠ []) : bestL a b ≠ [] := by
  unfold bestL
  split
  · simp [h]
  · assumption
theorem bestL_sub {a b : List Int} {z : Int} (h : z ∈ bestL a b) : z ∈ a ∨ z ∈ b := by
  unfold bestL at h
  split at h
  · exact List.mem_append.1 h
  · exact .inl (List.mem_filter.1 h).1
theorem bestL_nodup {a b : List Int} (ha : a.Nodup) (hb : b.Nodup) : (bestL a b).Nodup := by
  unfold bestL
  split
  · rename_i h
    rw [List.filter_eq_nil_iff] at h
    rw [List.nodup_append]
    refine ⟨ha, hb, fun x hx y hy e => ?_⟩
    subst e
    exact h x hx (by simpa using hy)
  · exact ha.filter _
theorem dvT_ne (s : Bool) (l : List RT) : ∀ (k x : Nat) (a : Int), (dvT s l k x a).hs ≠ []
  | 0, x, a => by rw [dvT]; simp [FT.hs]
  | k + 1, x, a => by
    rw [dvT]
    split
    · exact bestL_ne (dvT_ne s l k _ _)
    · simp [FT.hs]
theorem dvT_nodup (s : Bool) (l : List RT) : ∀ (k x : Nat) (a : Int), (dvT s l k x a).hs.Nodup
  | 0, x, a => by rw [dvT]; simp [FT.hs]
  | k + 1, x, a => by
    rw [dvT]
    split
    · exact bestL_nodup (dvT_nodup s l k _ _) (dvT_nodup s l k _ _)
    · simp [FT.hs]
theorem atH_in (p : PK) : ∀ (l : List RT) (a : Int), atH p l a = a ∨ atH p l a ∈ l.map Prod.snd
  | [], a => .inl rfl
  | r :: t, a => by
    show atH p t (if r.1 = p then r.2 else a) = a ∨ atH p t (if r.1 = p then r.2 else a) ∈ r.2 :: t.map Prod.snd
    rcases atH_in p t (if r.1 = p then r.2 else a) with h | h
    · rw [h]
      by_cases e : r.1 = p
      · rw [if_pos e]; exact .inr (List.mem_cons_self ..)
      · rw [if_neg e]; exact .inl rfl
    · exact .inr (List.mem_cons_of_mem _ h)
theorem dvT_in (s : Bool) (l : List RT) : ∀ (k x : Nat) (a z : Int), z ∈ (dvT s l k x a).hs → z = a ∨ z ∈ l.map Prod.snd := by
  have one : ∀ (p : PK) (a z : Int), z ∈ [atH p l a] → z = a ∨ z ∈ l.map Prod.snd := fun p a z h => by
    rw [List.mem_singleton] at h
    rcases atH_in p l a with e | e
    · exact .inl (h.trans e)
    · exact .inr (by rw [h]; exact e)
  intro k
  induction k with
  | zero => intro x a z h; rw [dvT] at h; exact one _ a z h
  | succ k ih =>
    intro x a z h
    rw [dvT] at h
    split at h
    · have tr : z = atH (pkB s x (k + 1)) l a ∨ z ∈ l.map Prod.snd → z = a ∨ z ∈ l.map Prod.snd := fun h => by
        rcases h with h | h
        · exact one (pkB s x (k + 1)) a z (by rw [h]; simp)
        · exact .inr h
      rcases bestL_sub h with h | h
      · exact tr (ih _ _ _ h)
      · exact tr (ih _ _ _ h)
    · exact one _ a z h
theorem dvT_len (s : Bool) (l : List RT) (k x : Nat) (a : Int) : (dvT s l k x a).hs.length ≤ l.length + 1 := by
  have := nodup_lenF (dvT s l k x a).hs (a :: l.map Prod.snd) (dvT_nodup s l k x a) fun z hz => by
    rcases dvT_in s l k x a z hz with h | h
    · exact List.mem_cons.2 (.inl h)
    · exact List.mem_cons.2 (.inr h)
  simpa using this
/-- What a part is depends on the routes within it alone. -/
theorem atH_filter {p : PK} {P : RT → Bool} : ∀ (l : List RT) (a : Int), (∀ r ∈ l, r.1 = p → P r = true) → atH p (l.filter P) a = atH p l a
  | [], a, _ => rfl
  | r :: t, a, h => by
    have ih := fun b => atH_filter t b (fun x hx => h x (by simp [hx]))
    cases hp : P r with
    | true =>
      rw [List.filter_cons_of_pos hp]
      exact ih _
    | false =>
      rw [List.filter_cons_of_neg (by simp [hp])]
      have hr : r.1 ≠ p := fun e => by rw [h r (by simp) e] at hp; cases hp
      rw [ih a]
      show atH p t a = atH p t (if r.1 = p then r.2 else a)
      rw [if_neg hr]
theorem ov_self {s : Bool} {x k : Nat} (hk : k ≤ wideN s) {r : RT} (h : chkE r.1.1 r.1.2.1 r.1.2.2 = 0) (e : r.1 = pkB s x k) : ovR s x k r = true := by
  obtain ⟨h1, h2, h3⟩ := (key_blk hk h).1 e
  rw [ovR_iff]
  exact ⟨h1, by omega, by rw [h2, h3]; omega⟩
theorem deep_filter {s : Bool} {x k : Nat} (l : List RT) : deepR s x k (l.filter (ovR s x k)) = deepR s x k l := by
  unfold deepR
  rw [Bool.eq_iff_iff, List.any_eq_true, List.any_eq_true]
  constructor
  · rintro ⟨r, hr, h⟩; exact ⟨r, (List.mem_filter.1 hr).1, h⟩
  · rintro ⟨r, hr, h⟩
    rw [Bool.and_eq_true] at h
    exact ⟨r, List.mem_filter.2 ⟨hr, h.2⟩, by rw [Bool.and_eq_true]; exact h⟩
theorem ov_child {s : Bool} {x x' k : Nat} (hk : k + 1 ≤ wideN s) (hx : x' = x ∨ x' = x + 2 ^ k) {r : RT} (hc : chkE r.1.1 r.1.2.1 r.1.2.2 = 0) (h : ovR s x' k r = true) : ovR s x (k + 1) r = true ∧ r.1 ≠ pkB s x (k + 1) := by
  rw [ovR_iff] at h
  obtain ⟨h1, h2, h3⟩ := h
  have hp : 2 ^ (k + 1) = 2 ^ k + 2 ^ k := by rw [Nat.pow_succ]; omega
  have hpos : 0 < 2 ^ k := Nat.two_pow_pos k
  refine ⟨?_, fun e => ?_⟩
  · rw [ovR_iff]; exact ⟨h1, by omega, by omega⟩
  · obtain ⟨_, e2, e3⟩ := (key_blk hk hc).1 e
    rw [e2, e3] at h3
    rcases hx with rfl | rfl <;> omega
theorem dvT_filter {s : Bool} {l : List RT} (hv : ValR l) : ∀ (k x : Nat) (a : Int) (Q : RT → Bool), k ≤ wideN s → (∀ r ∈ l, ovR s x k r = true → Q r = true) → dvT s (l.filter Q) k x a = dvT s l k x a := by
  intro k
  induction k with
  | zero =>
    intro x a Q hk hQ
    rw [dvT, dvT, atH_filter l a fun r hr e => hQ r hr (ov_self hk (hv r hr) e)]
  | succ k ih =>
    intro x a Q hk hQ
    have e1 : atH (pkB s x (k + 1)) (l.filter Q) a = atH (pkB s x (k + 1)) l a := atH_filter l a fun r hr e => hQ r hr (ov_self hk (hv r hr) e)
    have e2 : deepR s x (k + 1) (l.filter Q) = deepR s x (k + 1) l := by
      rw [← deep_filter, ← deep_filter (l := l), List.filter_filter]
      congr 1
      refine List.filter_congr fun r hr => ?_
      cases h : ovR s x (k + 1) r with
      | true => rw [hQ r hr h]; rfl
      | false => rfl
    have c1 : ∀ b, dvT s (l.filter Q) k x b = dvT s l k x b := fun b => ih x b Q (by omega) fun r hr h => hQ r hr (ov_child hk (.inl rfl) (hv r hr) h).1
    have c2 : ∀ b, dvT s (l.filter Q) k (x + 2 ^ k) b = dvT s l k (x + 2 ^ k) b := fun b => ih (x + 2 ^ k) b Q (by omega) fun r hr h => hQ r hr (ov_child hk (.inr rfl) (hv r hr) h).1
    rw [dvT, dvT, e1, e2, c1, c2]
/-- The routes within a part and longer than it. -/
def lngR (s : Bool) (x k : Nat) (l : List RT) : List RT := l.filter fun r => !decide (r.1 = pkB s x k) && ovR s x k r
theorem lng_deep (s : Bool) (x k : Nat) (l : List RT) : (lngR s x k l = []) ↔ deepR s x k l = false := by
  unfold lngR deepR
  rw [List.filter_eq_nil_iff, List.any_eq_false]
theorem dvT_low {s : Bool} {l : List RT} (hv : ValR l) {k x x' : Nat} (hk : k + 1 ≤ wideN s) (hx : x' = x ∨ x' = x + 2 ^ k) (a : Int) : dvT s (lngR s x (k + 1) l) k x' a = dvT s l k x' a := by
  refine dvT_filter hv k x' a _ (by omega) fun r hr h => ?_
  obtain ⟨h1, h2⟩ := ov_child hk hx (hv r hr) h
  rw [h1, decide_eq_false h2]; rfl
theorem lng_take {s : Bool} {x k : Nat} {l : List RT} {j : Nat} (hj : j < l.length) : lngR s x k (l.take (j + 1)) = lngR s x k (l.take j) ++ if (!decide (l[j].1 = pkB s x k) && ovR s x k l[j]) = true then [l[j]] else [] := by
  unfold lngR
  rw [List.take_succ_eq_append_getElem hj, List.filter_append]
  simp only [List.filter_cons, List.filter_nil]
theorem lng_len (s : Bool) (x k : Nat) (l : List RT) : (lngR s x k l).length ≤ l.length := List.length_filter_le ..
theorem lng_val {s : Bool} {x k : Nat} {l : List RT} (hv : ValR l) : ValR (lngR s x k l) := fun r hr => hv r (List.mem_filter.1 hr).1
end Go.Proofs.Ytgajepmnklbmpaa

/-
  The blocks of a range lie side by side.
-/
import Derived.Test.YtnpcofaonimpcaaDoorG1
namespace Go.Proofs.YtnpcofaonimpcaaDoor
set_option linter.unusedVariables false
set_option linter.unusedSimpArgs false

/-- Blocks side by side, from s on up to t. -/
def Chain : Nat → List (Nat × Nat) → Nat → Prop
  | s, [], t => s = t
  | s, p :: r, t => p.1 = s ∧ Chain (s + 2 ^ p.2) r t
theorem Chain.app : ∀ {l m : List (Nat × Nat)} {s u t : Nat}, Chain s l u → Chain u m t → Chain s (l ++ m) t
  | [], m, s, u, t, h, k => by cases h; exact k
  | p :: l, m, s, u, t, h, k => ⟨h.1, Chain.app h.2 k⟩
theorem canon_chain (a b : Nat) (hab : a ≤ b) : ∀ k x, a < x + 2 ^ k → x ≤ b → Chain (max a x) (canon (fromTo a b) k x) (min (b + 1) (x + 2 ^ k))
  | 0, x, h1, h2 => by
    have hp : 2 ^ 0 = 1 := rfl
    unfold canon
    rw [if_pos ⟨by omega, h2⟩]
    exact ⟨by show x = max a x; omega, by show max a x + 2 ^ 0 = _; omega⟩
  | k + 1, x, h1, h2 => by
    have hp := pow_one k
    have hu := pow_up k
    by_cases c : ∀ a', inB x (k + 1) a' → fromTo a b a'
    · rw [canon_all c]
      have c1 := c x (inB_self _ _)
      have c2 := c (x + (2 ^ (k + 1) - 1)) (inB_end _ _)
      unfold fromTo at c1 c2
      have h3 := pow_one (k + 1)
      exact ⟨by show x = max a x; omega, by show max a x + 2 ^ (k + 1) = _; omega⟩
    · rw [canon_half c]
      by_cases l : a < x + 2 ^ k
      · by_cases r : x + 2 ^ k ≤ b
        · have q1 := canon_chain a b hab k x l h2
          have q2 := canon_chain a b hab k (x + 2 ^ k) (by omega) r
          rw [show max a (x + 2 ^ k) = min (b + 1) (x + 2 ^ k) by omega, show min (b + 1) (x + 2 ^ k + 2 ^ k) = min (b + 1) (x + 2 ^ (k + 1)) by omega] at q2
          exact q1.app q2
        · rw [canon_none (k := k) (x := x + 2 ^ k) (fun a' h => by unfold inB at h; unfold fromTo; omega), List.append_nil]
          have q1 := canon_chain a b hab k x l h2
          rw [show min (b + 1) (x + 2 ^ k) = min (b + 1) (x + 2 ^ (k + 1)) by omega] at q1
          exact q1
      · rw [canon_none (k := k) (x := x) (fun a' h => by unfold inB at h; unfold fromTo; omega), List.nil_append]
        have q2 := canon_chain a b hab k (x + 2 ^ k) (by omega) (by omega)
        rw [show max a (x + 2 ^ k) = max a x by omega, show min (b + 1) (x + 2 ^ k + 2 ^ k) = min (b + 1) (x + 2 ^ (k + 1)) by omega] at q2
        exact q2
/-- Of a list of prefixes: from s on up to t. -/
def Line (six : Bool) (s : Nat) (l : List PT) (t : Nat) : Prop := ∃ m : List (Nat × Nat), l = m.map (bl six) ∧ (∀ q ∈ m, AL six q.1 q.2) ∧ Chain s m t
theorem Line.range (six : Bool) (a b : Nat) (hab : a ≤ b) (hb : b < 2 ^ wideN six) : Line six a (cn six (fromTo a b) (wideN six) 0) (b + 1) := by
  refine ⟨canon (fromTo a b) (wideN six) 0, rfl, fun q hq => ?_, ?_⟩
  · obtain ⟨_, h2, h3, c, h4⟩ := canon_sub hq
    exact ⟨h3, by omega, c, by omega⟩
  · have := canon_chain a b hab (wideN six) 0 (by omega) (by omega)
    rw [show max a 0 = a by omega, show min (b + 1) (0 + 2 ^ wideN six) = b + 1 by omega] at this
    exact this
/-- Its first one, and the rest. -/
theorem Line.step {six : Bool} {s t : Nat} {p : PT} {l : List PT} (h : Line six s (p :: l) t) : ∃ k, p = (six, s, ((wideN six - k : Nat) : Int)) ∧ AL six s k ∧ Line six (s + 2 ^ k) l t := by
  obtain ⟨m, e, al, ch⟩ := h
  match m, e, al, ch with
  | (x, k) :: m, e, al, ch =>
    obtain ⟨rfl, hc⟩ := ch
    simp only [List.map_cons, List.cons.injEq] at e
    exact ⟨k, e.1, al (x, k) (.head _), m, e.2, fun q hq => al q (.tail _ hq), hc⟩
theorem Line.end {six : Bool} {s t : Nat} (h : Line six s [] t) : s = t := by
  obtain ⟨m, e, _, ch⟩ := h
  match m, e, ch with
  | [], _, ch => exact ch
end Go.Proofs.YtnpcofaonimpcaaDoor

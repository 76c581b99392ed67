/-
  Sets of addresses as the smallest lists of blocks: of the program's text nothing is said here.
-/
import Derived.Test.YtgajepmnklbmpaaG1
namespace Go.Proofs.Ytgajepmnklbmpaa
set_option linter.unusedVariables false
set_option linter.unusedSimpArgs false

/-- An address of the block of 2^k addresses from x on. -/
def inB (x k a : Nat) : Prop := x ≤ a ∧ a < x + 2 ^ k
theorem pow_up (k : Nat) : 2 ^ (k + 1) = 2 ^ k + 2 ^ k := by rw [Nat.pow_succ]; omega
theorem pow_one (k : Nat) : 1 ≤ 2 ^ k := Nat.one_le_two_pow
theorem inB_self (x k : Nat) : inB x k x := ⟨Nat.le_refl _, by have := pow_one k; omega⟩
theorem inB_zero {x a : Nat} : inB x 0 a ↔ a = x := by unfold inB; simp; omega
theorem inB_up {x k a : Nat} : inB x (k + 1) a ↔ inB x k a ∨ inB (x + 2 ^ k) k a := by
  unfold inB; rw [pow_up]; omega
theorem inB_low {x k a : Nat} (h : inB x k a) : inB x (k + 1) a := inB_up.2 (.inl h)
theorem inB_high {x k a : Nat} (h : inB (x + 2 ^ k) k a) : inB x (k + 1) a := inB_up.2 (.inr h)
open Classical in
/-- The smallest list of blocks for the addresses of S in the block (x, k), in order. -/
noncomputable def canon (S : Nat → Prop) : Nat → Nat → List (Nat × Nat)
  | 0, x => if S x then [(x, 0)] else []
  | k + 1, x => if (∀ a, inB x (k + 1) a → S a) then [(x, k + 1)] else canon S k x ++ canon S k (x + 2 ^ k)
theorem canon_all {S : Nat → Prop} : ∀ {k x : Nat}, (∀ a, inB x k a → S a) → canon S k x = [(x, k)]
  | 0, x, h => by unfold canon; rw [if_pos (h x (inB_self x 0))]
  | k + 1, x, h => by unfold canon; rw [if_pos h]
theorem canon_half {S : Nat → Prop} {k x : Nat} (h : ¬ ∀ a, inB x (k + 1) a → S a) : canon S (k + 1) x = canon S k x ++ canon S k (x + 2 ^ k) := by
  conv => lhs; unfold canon
  rw [if_neg h]
theorem canon_none {S : Nat → Prop} : ∀ {k x : Nat}, (∀ a, inB x k a → ¬ S a) → canon S k x = []
  | 0, x, h => by unfold canon; rw [if_neg (h x (inB_self x 0))]
  | k + 1, x, h => by
    rw [canon_half (fun c => h x (inB_self _ _) (c x (inB_self _ _))), canon_none (fun a ha => h a (inB_low ha)), canon_none (fun a ha => h a (inB_high ha))]; rfl
theorem canon_ext {S T : Nat → Prop} : ∀ {k x : Nat}, (∀ a, inB x k a → (S a ↔ T a)) → canon S k x = canon T k x
  | 0, x, h => by
    unfold canon
    have := h x (inB_self x 0)
    by_cases c : S x
    · rw [if_pos c, if_pos (this.1 c)]
    · rw [if_neg c, if_neg (fun d => c (this.2 d))]
  | k + 1, x, h => by
    by_cases c : ∀ a, inB x (k + 1) a → S a
    · rw [canon_all c, canon_all (fun a ha => (h a ha).1 (c a ha))]
    · rw [canon_half c, canon_half (fun d => c (fun a ha => (h a ha).2 (d a ha))), canon_ext (fun a ha => h a (inB_low ha)), canon_ext (fun a ha => h a (inB_high ha))]
theorem canon_mem {S : Nat → Prop} {a : Nat} : ∀ {k x : Nat}, (∃ p ∈ canon S k x, inB p.1 p.2 a) ↔ inB x k a ∧ S a
  | 0, x => by
    unfold canon
    by_cases c : S x
    · rw [if_pos c]
      simp only [List.mem_singleton, exists_eq_left]
      exact ⟨fun h => ⟨h, (inB_zero.1 h) ▸ c⟩, fun h => h.1⟩
    · rw [if_neg c]
      constructor
      · rintro ⟨p, hp, _⟩; cases hp
      · rintro ⟨h, d⟩; exact absurd ((inB_zero.1 h) ▸ d) c
  | k + 1, x => by
    by_cases c : ∀ a, inB x (k + 1) a → S a
    · rw [canon_all c]
      simp only [List.mem_singleton, exists_eq_left]
      exact ⟨fun h => ⟨h, c a h⟩, fun h => h.1⟩
    · rw [canon_half c]
      constructor
      · rintro ⟨p, hp, hi⟩
        rcases List.mem_append.1 hp with h | h
        · have := (canon_mem (k := k) (x := x)).1 ⟨p, h, hi⟩; exact ⟨inB_low this.1, this.2⟩
        · have := (canon_mem (k := k) (x := x + 2 ^ k)).1 ⟨p, h, hi⟩; exact ⟨inB_high this.1, this.2⟩
      · rintro ⟨h, s⟩
        rcases inB_up.1 h with h | h
        · obtain ⟨p, hp, hi⟩ := canon_mem.2 ⟨h, s⟩; exact ⟨p, List.mem_append.2 (.inl hp), hi⟩
        · obtain ⟨p, hp, hi⟩ := canon_mem.2 ⟨h, s⟩; exact ⟨p, List.mem_append.2 (.inr hp), hi⟩
/-- Two whole halves: all is in. -/
theorem canon_join {S : Nat → Prop} {k x : Nat} (h : canon S k x ++ canon S k (x + 2 ^ k) = [(x, k), (x + 2 ^ k, k)]) : ∀ a, inB x (k + 1) a → S a := by
  intro a ha
  have : ∃ p ∈ canon S k x ++ canon S k (x + 2 ^ k), inB p.1 p.2 a := by
    rw [h]
    rcases inB_up.1 ha with c | c
    · exact ⟨_, .head _, c⟩
    · exact ⟨_, .tail _ (.head _), c⟩
  obtain ⟨p, hp, hi⟩ := this
  rcases List.mem_append.1 hp with c | c
  · exact (canon_mem.1 ⟨p, c, hi⟩).2
  · exact (canon_mem.1 ⟨p, c, hi⟩).2
theorem canon_whole {S : Nat → Prop} {k x : Nat} (h : canon S k x = [(x, k)]) : ∀ a, inB x k a → S a := fun a ha =>
  (canon_mem.1 ⟨(x, k), by rw [h]; exact .head _, ha⟩).2
/-- What lies in the list. -/
theorem canon_sub {S : Nat → Prop} : ∀ {k x : Nat} {p : Nat × Nat}, p ∈ canon S k x → x ≤ p.1 ∧ p.1 + 2 ^ p.2 ≤ x + 2 ^ k ∧ p.2 ≤ k ∧ ∃ c, p.1 = x + c * 2 ^ p.2
  | 0, x, p, h => by
    unfold canon at h
    split at h
    · rw [List.mem_singleton] at h; subst h; exact ⟨Nat.le_refl _, Nat.le_refl _, Nat.le_refl _, 0, by simp⟩
    · cases h
  | k + 1, x, p, h => by
    by_cases c : ∀ a, inB x (k + 1) a → S a
    · rw [canon_all c, List.mem_singleton] at h; subst h; exact ⟨Nat.le_refl _, Nat.le_refl _, Nat.le_refl _, 0, by simp⟩
    · rw [canon_half c] at h
      have h1k := pow_one k
      rw [pow_up]
      rcases List.mem_append.1 h with h | h
      · obtain ⟨a, b, e, d⟩ := canon_sub h; exact ⟨a, by omega, by omega, d⟩
      · obtain ⟨a, b, e, d, hd⟩ := canon_sub h
        refine ⟨by omega, by omega, by omega, d + 2 ^ (k - p.2), ?_⟩
        rw [Nat.add_mul, ← Nat.pow_add, show k - p.2 + p.2 = k by omega]; omega
theorem canon_in {S : Nat → Prop} {k x : Nat} {p : Nat × Nat} (h : p ∈ canon S k x) : ∀ a, inB p.1 p.2 a → S a := fun a ha => (canon_mem.1 ⟨p, h, ha⟩).2
/-- One behind the other. -/
theorem canon_row {S : Nat → Prop} : ∀ {k x : Nat}, List.Pairwise (fun p q : Nat × Nat => p.1 + 2 ^ p.2 ≤ q.1) (canon S k x)
  | 0, x => by unfold canon; split <;> simp
  | k + 1, x => by
    by_cases c : ∀ a, inB x (k + 1) a → S a
    · rw [canon_all c]; simp
    · rw [canon_half c]
      refine List.pairwise_append.2 ⟨canon_row, canon_row, fun p hp q hq => ?_⟩
      have h1 := canon_sub hp
      have h2 := canon_sub hq
      omega
/-- A block that is not the whole: its other half is not all in. -/
theorem canon_sib {S : Nat → Prop} : ∀ {k x : Nat} {p q : Nat × Nat}, p ∈ canon S k x → q ∈ canon S k x → p.2 = q.2 → p.1 + 2 ^ p.2 = q.1 → ¬ ∃ c, p.1 = x + c * 2 ^ (p.2 + 1)
  | 0, x, p, q, hp, hq, e, f => by
    have h1 := canon_sub hp; have h2 := canon_sub hq
    have := pow_one p.2; have := pow_one q.2; simp at h1 h2
    omega
  | k + 1, x, p, q, hp, hq, e, f => by
    by_cases c : ∀ a, inB x (k + 1) a → S a
    · rw [canon_all c, List.mem_singleton] at hp hq
      subst hp; subst hq
      have := pow_one (k + 1); simp at f
    · rw [canon_half c] at hp hq
      rcases List.mem_append.1 hp with hp | hp <;> rcases List.mem_append.1 hq with hq | hq
      · exact canon_sib hp hq e f
      · -- p the last of the lower, q the first of the upper: then both are the halves, or p's parent does not begin at p
        have h1 := canon_sub hp; have h2 := canon_sub hq
        rintro ⟨d, hd⟩
        have hk : p.2 ≤ k := h1.2.2.1
        by_cases hlt : p.2 < k
        · -- x + 2^k = p.1 + 2^p.2 = x + (2 d + 1) 2^p.2, but 2^(p.2+1) divides 2^k
          have h3 : d * 2 ^ (p.2 + 1) + 2 ^ p.2 = 2 ^ k := by omega
          have h4 : 2 ^ k = 2 ^ (k - p.2 - 1) * 2 ^ (p.2 + 1) := by rw [← Nat.pow_add]; congr 1; omega
          rw [h4] at h3
          have h5 : (d * 2 ^ (p.2 + 1) + 2 ^ p.2) % 2 ^ (p.2 + 1) = 0 := by rw [h3]; exact Nat.mul_mod_left _ _
          rw [Nat.add_comm, Nat.add_mul_mod_self_right, Nat.mod_eq_of_lt (by rw [pow_up]; have := pow_one p.2; omega)] at h5
          have := pow_one p.2; omega
        · have hpk : p.2 = k := by omega
          have hq1 : q.2 = k := by omega
          have hp1 : p.1 = x := by rw [hpk] at h1; omega
          have hq2 : q.1 = x + 2 ^ k := by rw [hpk] at f; omega
          refine c (fun a ha => ?_)
          rcases inB_up.1 ha with h | h
          · exact canon_in hp a (by rw [hp1, hpk]; exact h)
          · exact canon_in hq a (by rw [hq2, hq1]; exact h)
      · have h1 := canon_sub hp; have h2 := canon_sub hq; have := pow_one q.2; have := pow_one p.2; omega
      · rintro ⟨d, hd⟩
        have h1 := canon_sub hp
        by_cases hlt : p.2 < k
        · refine canon_sib hp hq e f ⟨d - 2 ^ (k - p.2 - 1), ?_⟩
          have h4 : 2 ^ k = 2 ^ (k - p.2 - 1) * 2 ^ (p.2 + 1) := by rw [← Nat.pow_add]; congr 1; omega
          have h5 : 2 ^ (k - p.2 - 1) ≤ d := by
            have : 2 ^ (k - p.2 - 1) * 2 ^ (p.2 + 1) ≤ d * 2 ^ (p.2 + 1) := by omega
            exact Nat.le_of_mul_le_mul_right this (pow_one _)
          rw [Nat.sub_mul, ← h4]; have : 2 ^ k ≤ d * 2 ^ (p.2 + 1) := by omega
          omega
        · have h2 := canon_sub hq
          have hpk : p.2 = k := by omega
          rw [hpk] at f h1
          have := pow_one q.2
          omega
end Go.Proofs.Ytgajepmnklbmpaa

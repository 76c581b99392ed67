/-
  cidr.rangeWithin, whole; cidr.family.
-/
import Derived.Test.YtojdlhiibffnfaaDoorCidrC
namespace Go.Proofs.YtojdlhiibffnfaaDoor
open Go.RowKit
set_option linter.unusedVariables false
set_option linter.unusedSimpArgs false

/-- The addresses from a to b. -/
def fromTo (a b c : Nat) : Prop := a ≤ c ∧ c ≤ b
theorem inB_end (x k : Nat) : inB x k (x + (2 ^ k - 1)) := ⟨by omega, by have := pow_one k; omega⟩
theorem cn_le_low {six : Bool} {S : Nat → Prop} {k x N : Nat} (hN : 1 ≤ N) (h : (cn six S (k + 1) x).length ≤ N) : (cn six S k x).length ≤ N ∧ (cn six S k (x + 2 ^ k)).length ≤ N := by
  by_cases c : ∀ a, inB x (k + 1) a → S a
  · rw [cn_all (fun a ha => c a (inB_low ha)), cn_all (fun a ha => c a (inB_high ha))]; exact ⟨hN, hN⟩
  · rw [cn_half c, List.length_append] at h; omega
theorem rangeW_calls (six : Bool) (a b : Nat) : ∀ (k x : Nat), AL six x k → (cn six (fromTo a b) k x).length ≤ 1000000000 → ∀ w : World,
    Calls Tryd.prog 35 #[.agg #[.bool six, .int .u64 (aH x), .int .u64 (aL x), .int .i64 ((wideN six - k : Nat) : Int)], .agg #[.bool six, .int .u64 (aH a), .int .u64 (aL a)], .agg #[.bool six, .int .u64 (aH b), .int .u64 (aL b)]] w (PresOut (cn six (fromTo a b) k x) w)
  | k, x, hA, hN, w => by
    by_cases h0 : x + (2 ^ k - 1) < a
    · rw [cn_none (fun c hc hs => by have := hc.2; have := hs.1; have := pow_one k; omega)]
      exact rw_none1 six x k a b hA h0 w
    · by_cases h1 : b < x
      · rw [cn_none (fun c hc hs => by have := hc.1; have := hs.2; omega)]
        exact rw_none2 six x k a b hA h0 h1 w
      · by_cases h2 : x < a
        · match k, hA, hN, h0 with
          | 0, _, _, h0 => simp at h0; omega
          | k + 1, hA, hN, h0 =>
            have hn : ¬ ∀ c, inB x (k + 1) c → fromTo a b c := fun h => by have := (h x (inB_self _ _)).1; omega
            obtain ⟨n1, n2⟩ := cn_le_low (by omega) hN
            have hN' := hN
            rw [cn_half hn] at hN' ⊢
            rw [List.length_append] at hN'
            exact rw_split1 six x k a b hA h0 h1 h2 _ _ hN' (Lib.hid (rangeW_calls six a b k x hA.low n1)) (Lib.hid (rangeW_calls six a b k (x + 2 ^ k) hA.high n2)) w
        · by_cases h3 : b < x + (2 ^ k - 1)
          · match k, hA, hN, h0, h3 with
            | 0, _, _, h0, h3 => simp at h3; omega
            | k + 1, hA, hN, h0, h3 =>
              have hn : ¬ ∀ c, inB x (k + 1) c → fromTo a b c := fun h => by have := (h _ (inB_end x (k + 1))).2; omega
              obtain ⟨n1, n2⟩ := cn_le_low (by omega) hN
              have hN' := hN
              rw [cn_half hn] at hN' ⊢
              rw [List.length_append] at hN'
              exact rw_split2 six x k a b hA h0 h1 h2 h3 _ _ hN' (Lib.hid (rangeW_calls six a b k x hA.low n1)) (Lib.hid (rangeW_calls six a b k (x + 2 ^ k) hA.high n2)) w
          · rw [cn_all (fun c hc => ⟨by have := hc.1; omega, by have := hc.2; have := pow_one k; omega⟩)]
            exact rw_all six x k a b hA h0 h1 h2 h3 w

def onS (a c : Nat) : Prop := a ≤ c
def upS (b c : Nat) : Prop := c ≤ b
/-- How many blocks a range has: one side, both sides. -/
theorem canon_from (a : Nat) : ∀ k x, (canon (onS a) k x).length ≤ k + 1
  | 0, x => by unfold canon; split <;> simp
  | k + 1, x => by
    by_cases h : ∀ c, inB x (k + 1) c → onS a c
    · rw [canon_all h]; simp
    · rw [canon_half h, List.length_append]
      by_cases h2 : a ≤ x + 2 ^ k
      · rw [canon_all (k := k) (x := x + 2 ^ k) (fun c hc => by unfold onS; have := hc.1; omega)]
        have := canon_from a k x; simp only [List.length_cons, List.length_nil]; omega
      · rw [canon_none (k := k) (x := x) (fun c hc => by unfold onS; have := hc.2; omega)]
        have := canon_from a k (x + 2 ^ k); simp only [List.length_cons, List.length_nil]; omega
theorem canon_upto (b : Nat) : ∀ k x, (canon (upS b) k x).length ≤ k + 1
  | 0, x => by unfold canon; split <;> simp
  | k + 1, x => by
    by_cases h : ∀ c, inB x (k + 1) c → upS b c
    · rw [canon_all h]; simp
    · rw [canon_half h, List.length_append]
      by_cases h2 : x + 2 ^ k ≤ b
      · rw [canon_all (k := k) (x := x) (fun c hc => by unfold upS; have := hc.2; omega)]
        have := canon_upto b k (x + 2 ^ k); simp only [List.length_cons, List.length_nil]; omega
      · rw [canon_none (k := k) (x := x + 2 ^ k) (fun c hc => by unfold upS; have := hc.1; omega)]
        have := canon_upto b k x; simp only [List.length_cons, List.length_nil]; omega
theorem canon_range (a b : Nat) : ∀ k x, (canon (fromTo a b) k x).length ≤ 2 * k + 1
  | 0, x => by unfold canon; split <;> simp
  | k + 1, x => by
    by_cases h : ∀ c, inB x (k + 1) c → fromTo a b c
    · rw [canon_all h]; simp
    · rw [canon_half h, List.length_append]
      by_cases h2 : a ≤ x + 2 ^ k
      · by_cases h3 : x + 2 ^ k ≤ b
        · rw [canon_ext (k := k) (x := x) (T := onS a) (fun c hc => ⟨fun h => h.1, fun h => ⟨h, by have := hc.2; omega⟩⟩), canon_ext (k := k) (x := x + 2 ^ k) (T := upS b) (fun c hc => ⟨fun h => h.2, fun h => ⟨by have := hc.1; omega, h⟩⟩)]
          have := canon_from a k x; have := canon_upto b k (x + 2 ^ k); omega
        · rw [canon_none (k := k) (x := x + 2 ^ k) (fun c hc hs => by have := hc.1; have := hs.2; omega)]
          have := canon_range a b k x; simp only [List.length_cons, List.length_nil]; omega
      · rw [canon_none (k := k) (x := x) (fun c hc hs => by have := hc.2; have := hs.1; omega)]
        have := canon_range a b k (x + 2 ^ k); simp only [List.length_cons, List.length_nil]; omega
theorem cn_range (six : Bool) (a b k x : Nat) (hk : k ≤ wideN six) : (cn six (fromTo a b) k x).length ≤ 257 := by
  unfold cn; rw [List.length_map]; have := canon_range a b k x; have := wideN_le six; omega

theorem family_calls (six : Bool) (h l : Int) (w : World) :
    Calls Tryd.prog 36 #[.agg #[.bool six, .int .u64 h, .int .u64 l]] w fun e w' => e = .returned (.int .i64 (if six then 1 else 0)) ∧ w.alloc (.cells #[.bool six, .int .u64 h, .int .u64 l] 24) = w' := by
  cases six
  all_goals
    go_enter Tryd.func36, Tryd.ntmps36
    go_wp2
    go_returns
    exact ⟨rfl, rfl⟩
end Go.Proofs.YtojdlhiibffnfaaDoor
